package codec_test

import (
	"encoding/hex"
	"fmt"
	"math/rand"
	"slices"
	"strconv"
	"strings"

	"erratum/api"
	"erratum/num"
	"erratum/tree"
)

// formats are all there are; others are numbers of none.
var (
	formats = []int{api.JSON, api.CBOR, api.Pack}
	others  = []int{0, 4, 5, 7, -1, -2, -3, 255, 256, 257, 258, 1<<32 + 1, 1<<62 + 1, -1 << 63, 1<<63 - 1}
)

func null() api.Tree { return api.Tree{Kind: api.Null} }

func truth(b bool) api.Tree { return api.Tree{Kind: api.Bool, B: b} }

func number(s string) api.Tree {
	n, e := num.Parse(s)
	if e != api.OK {
		panic(s)
	}
	return api.Tree{Kind: api.Number, N: n}
}

func text(s string) api.Tree { return api.Tree{Kind: api.Text, S: s} }

func blob(s string) api.Tree { return api.Tree{Kind: api.Bytes, S: s} }

func list(l ...api.Tree) api.Tree { return api.Tree{Kind: api.Array, V: l} }

// named is an object of these names, in the order they are given, each with its place as its value.
func named(names ...string) api.Tree {
	t := api.Tree{Kind: api.Object, K: names}
	for i := range names {
		t.V = append(t.V, number(strconv.Itoa(i)))
	}
	return t
}

// one is an object of one member.
func one(name string, v api.Tree) api.Tree {
	return api.Tree{Kind: api.Object, K: []string{name}, V: []api.Tree{v}}
}

// nest is a value within so many arrays.
func nest(many int, v api.Tree) api.Tree {
	for range many {
		v = list(v)
	}
	return v
}

// many is a list of so many of one value.
func many(n int, v api.Tree) []api.Tree { return slices.Repeat([]api.Tree{v}, n) }

// manyNames is so many names that rise.
func manyNames(n int) (names []string) {
	for i := range n {
		names = append(names, strconv.Itoa(100000+i))
	}
	return names
}

// crowd is an array that is, with all in it, so many values.
func crowd(nodes int) api.Tree {
	t := list()
	for nodes--; nodes > 0; {
		most := min(nodes, 250)
		t.V = append(t.V, list(many(most-1, null())...))
		nodes -= most
	}
	return t
}

// exact tells whether all fields of two are the same.
func exact(a, b api.Tree) bool {
	return a.Kind == b.Kind && a.B == b.B && a.S == b.S && a.N.Neg == b.N.Neg && a.N.E == b.N.E && slices.Equal(a.N.M, b.N.M) && slices.Equal(a.K, b.K) && slices.EqualFunc(a.V, b.V, exact)
}

// bytesOf are bytes as digits of sixteen tell them, with blanks between.
func bytesOf(s string) string {
	b, err := hex.DecodeString(strings.ReplaceAll(s, " ", ""))
	if err != nil {
		panic(s)
	}
	return string(b)
}

// short is bytes as a fault tells them.
func short(b string) string {
	if len(b) <= 80 {
		return fmt.Sprintf("%q", b)
	}
	return fmt.Sprintf("%q.. (%d bytes) ..%q", b[:40], len(b), b[len(b)-40:])
}

// written is a value, and how each format writes it: as JSON, and as CBOR and MessagePack in digits of sixteen; empty where a format has it not.
type written struct {
	v                api.Tree
	json, cbor, pack string
}

// in is how a format writes it, and whether that format has it.
func (w written) in(format int) (string, bool) {
	switch format {
	case api.JSON:
		return w.json, w.json != ""
	case api.CBOR:
		return bytesOf(w.cbor), true
	}
	return bytesOf(w.pack), w.pack != ""
}

// table is values of all kinds.
func table() []written {
	return []written{
		{null(), "null", "f6", "c0"},
		{truth(false), "false", "f4", "c2"},
		{truth(true), "true", "f5", "c3"},
		{number("0"), "0", "00", "00"},
		{number("23"), "23", "17", "17"},
		{number("24"), "24", "18 18", "18"},
		{number("-1"), "-1", "20", "ff"},
		{number("-300"), "-300", "39 01 2b", "d1 fe d4"},
		{number("18446744073709551615"), "18446744073709551615", "1b ff ff ff ff ff ff ff ff", "cf ff ff ff ff ff ff ff ff"},
		{number("18446744073709551616"), "18446744073709551616", "fa 5f 80 00 00", "ca 5f 80 00 00"},
		{number("18446744073709551617"), "18446744073709551617", "c4 82 00 c2 49 01 00 00 00 00 00 00 00 01", ""},
		{number("-18446744073709551615"), "-18446744073709551615", "3b ff ff ff ff ff ff ff fe", ""},
		{number("1.5"), "1.5", "f9 3e 00", "ca 3f c0 00 00"},
		{number("0.1"), "0.1", "c4 82 20 01", ""},
		{number("1e22"), "1e+22", "fb 44 80 f0 cf 06 4d d5 92", "cb 44 80 f0 cf 06 4d d5 92"},
		{number("1e1200"), "1e+1200", "c4 82 19 04 b0 01", ""},
		{text(""), `""`, "60", "a0"},
		{text("a\n\u20ac"), `"a\n` + "\u20ac" + `"`, "65 61 0a e2 82 ac", "a5 61 0a e2 82 ac"},
		{text(strings.Repeat("x", 40)), `"` + strings.Repeat("x", 40) + `"`, "78 28" + strings.Repeat("78", 40), "d9 28" + strings.Repeat("78", 40)},
		{blob(""), "", "40", "c4 00"},
		{blob("\xff\x00"), "", "42 ff 00", "c4 02 ff 00"},
		{list(), "[]", "80", "90"},
		{named(), "{}", "a0", "80"},
		{list(null(), list(truth(true))), "[null,[true]]", "82 f6 81 f5", "92 c0 91 c3"},
		{list(blob("a"), number("0.1")), "", "82 41 61 c4 82 20 01", ""},
		{one("", blob("a")), "", "a1 60 41 61", "81 a0 c4 01 61"},
		{one("a", number("0.1")), `{"a":0.1}`, "a1 61 61 c4 82 20 01", ""},
		{named("aa", "b"), `{"aa":0,"b":1}`, "a2 61 62 01 62 61 61 00", "82 a2 61 61 00 a1 62 01"},
		{one("a", list(number("1.5"), one("b", null()))), `{"a":[1.5,{"b":null}]}`, "a1 61 61 82 f9 3e 00 a1 61 62 f6", "81 a1 61 92 ca 3f c0 00 00 81 a1 62 c0"},
	}
}

// wrong is values that may not be.
func wrong() []api.Tree {
	return []api.Tree{
		{}, {Kind: 8}, {Kind: -1}, {Kind: api.Null, B: true}, {Kind: api.Bool, S: "a"}, {Kind: api.Text, S: "\xff"}, text(strings.Repeat("x", 2001)), blob(strings.Repeat("x", 2001)),
		{Kind: api.Number, N: api.Num{M: []uint32{10}}}, {Kind: api.Number, N: api.Num{Neg: true}}, {Kind: api.Number, N: api.Num{M: []uint32{1}, E: 1201}},
		list(api.Tree{}), list(blob("a"), api.Tree{}), list(number("0.1"), api.Tree{}), list(many(301, null())...), nest(64, null()), crowd(2001),
		named("b", "a"), named("a", "a"), one("\xff", null()), {Kind: api.Object, K: []string{"a"}}, {Kind: api.Object, V: []api.Tree{null()}}, {Kind: api.Text, S: "a", K: []string{"a"}},
	}
}

// mixedText is a text of code points of all lengths.
func mixedText(r *rand.Rand, most int) string {
	var b strings.Builder
	for range r.Intn(most + 1) {
		b.WriteRune([]rune{'a', 'b', 0, 0x1f, '"', '\\', 0x7f, 0x80, 0x7ff, 0x800, 0x20ac, 0xd7ff, 0xe000, 0xffff, 0x10000, 0x10ffff}[r.Intn(16)])
	}
	return b.String()
}

// mixedNumber is a number of any kind.
func mixedNumber(r *rand.Rand) api.Tree {
	switch r.Intn(4) {
	case 0:
		return number(strconv.Itoa(r.Intn(600) - 300))
	case 1:
		return number(strconv.FormatInt(int64(r.Uint64())>>r.Intn(64), 10))
	case 2:
		return number(strconv.FormatFloat(float64(r.Intn(1<<20)-1<<19)/256, 'f', -1, 64))
	}
	return number(strconv.Itoa(r.Intn(2000)-1000) + "e" + strconv.Itoa(r.Intn(100)-50))
}

// mixedValue is a value of any shape; kinds up to most of those that come one after the other here.
func mixedValue(r *rand.Rand, depth, most int) api.Tree {
	switch kind := r.Intn(most); {
	case kind == 0:
		return null()
	case kind == 1:
		return truth(r.Intn(2) == 0)
	case kind == 2 || depth == 0:
		return text(mixedText(r, 12))
	case kind < 5:
		t := list()
		for range r.Intn(6) {
			t.V = append(t.V, mixedValue(r, depth-1, most))
		}
		return t
	case kind < 7:
		t := named()
		for range r.Intn(6) {
			t = tree.Set(t, mixedText(r, 4), mixedValue(r, depth-1, most))
		}
		return t
	case kind == 7:
		return number(strconv.Itoa(r.Intn(600) - 300))
	case kind == 8:
		return mixedNumber(r)
	}
	return blob(mixedText(r, 30))
}

package json_test

import (
	"fmt"
	"math"
	"slices"
	"strconv"
	"strings"
	"testing"

	"erratum/api"
	"erratum/json"
	"erratum/num"
	"erratum/tree"
)

func null() api.Tree { return api.Tree{Kind: api.Null} }

func truth(b bool) api.Tree { return api.Tree{Kind: api.Bool, B: b} }

func number(s string) api.Tree {
	n, e := num.Parse(s)
	if e != api.OK {
		panic(s)
	}
	return api.Tree{Kind: api.Number, N: n}
}

func text(s string) api.Tree { return api.Tree{Kind: api.Text, S: s} }

func blob(s string) api.Tree { return api.Tree{Kind: api.Bytes, S: s} }

func list(l ...api.Tree) api.Tree { return api.Tree{Kind: api.Array, V: l} }

// one is an object of one member.
func one(name string, v api.Tree) api.Tree {
	return api.Tree{Kind: api.Object, K: []string{name}, V: []api.Tree{v}}
}

// named is an object of these names, in the order they are given, each with its place as its value.
func named(names ...string) api.Tree {
	t := api.Tree{Kind: api.Object, K: names}
	for i := range names {
		t.V = append(t.V, number(strconv.Itoa(i)))
	}
	return t
}

// nest is a value within so many others, each made of the one in it.
func nest(many int, v api.Tree, around func(api.Tree) api.Tree) api.Tree {
	for range many {
		v = around(v)
	}
	return v
}

// inArray and inObject are what nest takes.
func inArray(v api.Tree) api.Tree { return list(v) }

func inObject(v api.Tree) api.Tree { return one("", v) }

// many is a list of so many of one value.
func many(n int, v api.Tree) []api.Tree { return slices.Repeat([]api.Tree{v}, n) }

// manyNames is so many names that rise.
func manyNames(n int) (names []string) {
	for i := range n {
		names = append(names, strconv.Itoa(100000+i))
	}
	return names
}

// crowd is an array that is, with all in it, so many values.
func crowd(nodes int) api.Tree {
	t := list()
	for nodes--; nodes > 0; {
		most := min(nodes, 250)
		t.V = append(t.V, list(many(most-1, null())...))
		nodes -= most
	}
	return t
}

// exact tells whether all fields of two are the same.
func exact(a, b api.Tree) bool {
	return a.Kind == b.Kind && a.B == b.B && a.S == b.S && a.N.Neg == b.N.Neg && a.N.E == b.N.E && slices.Equal(a.N.M, b.N.M) && slices.Equal(a.K, b.K) && slices.EqualFunc(a.V, b.V, exact)
}

// quotedOf is a text in quote signs.
func quotedOf(s string) string {
	var b strings.Builder
	for _, r := range s {
		at := strings.IndexRune("\"\\\b\t\n\f\r", r)
		switch {
		case at >= 0:
			b.WriteString(`\` + `"\btnfr`[at:at+1])
		case r < 32:
			fmt.Fprintf(&b, `\u%04x`, r)
		default:
			b.WriteRune(r)
		}
	}
	return `"` + b.String() + `"`
}

// textOf is what Encode must answer of a value without Bytes, however long it is.
func textOf(t api.Tree) string {
	var parts []string
	for i, v := range t.V {
		name := ""
		if t.Kind == api.Object {
			name = quotedOf(t.K[i]) + ":"
		}
		parts = append(parts, name+textOf(v))
	}
	switch all := strings.Join(parts, ","); t.Kind {
	case api.Null:
		return "null"
	case api.Bool:
		return fmt.Sprint(t.B)
	case api.Number:
		return num.Text(t.N)
	case api.Text:
		return quotedOf(t.S)
	case api.Array:
		return "[" + all + "]"
	default:
		return "{" + all + "}"
	}
}

// holdEncode holds Encode against what it must answer.
func holdEncode(t *testing.T, what string, v api.Tree, want string, wantE api.Errno) {
	t.Helper()
	if got, e := json.Encode(v); got != want || e != wantE {
		t.Errorf("Encode of %.80s: %.80q, %d, not %.80q, %d", what, got, e, want, wantE)
	}
}

// P8.1
func TestEncodeNamed(t *testing.T) {
	for want, v := range map[string]api.Tree{
		"null": null(), "true": truth(true), "false": truth(false),
		"0": number("-0.00e5"), "7": number("7"), "-1": number("-1"), "1500": number("1.50e3"), "-0.015": number("-15e-3"), "0.000001": number("1e-6"), "1e-7": number("1e-7"), "100000000000000000000": number("1e20"), "1e+21": number("1e21"), "-1.25e-1198": number("-125e-1200"), "1e+1200": number("1e1200"),
		`""`: text(""), `"a"`: text("a"), `"a\nb"`: text("a\nb"), `"\"\\/\b\f\r\t\u0000\u001f` + "\x7f\u20ac\U0001d11e\"": text("\"\\/\b\f\r\t\x00\x1f\x7f\u20ac\U0001d11e"), `"null"`: text("null"), `"[1,2]"`: text("[1,2]"), "\"<&> \u2028\"": text("<&> \u2028"),
		"[]": list(), "[null]": list(null()), "[null,null]": list(null(), null()), "[[]]": list(list()), "[[],[]]": list(list(), list()), `[1,"a",true,[2,[3]],{}]`: list(number("1"), text("a"), truth(true), list(number("2"), list(number("3"))), named()),
		"{}": named(), `{"a":0}`: named("a"), `{"":0}`: named(""), `{"a":0,"b":1,"c":2}`: named("a", "b", "c"), `{"a":{"b":{}},"b":[]}`: {Kind: api.Object, K: []string{"a", "b"}, V: []api.Tree{one("b", named()), list()}},
		`{"":0,"\u0000":1,"\n":2,"\"":3,"A":4,"\\":5,"a":6,"aa":7,` + "\"\u00e9\":8,\"\uffff\":9,\"\U00010000\":10}": named("", "\x00", "\n", "\"", "A", "\\", "a", "aa", "\u00e9", "\uffff", "\U00010000"), // by the names' bytes, not by those of what is written
		`{"10":0,"9":1}`: named("10", "9"),
	} {
		holdEncode(t, want, v, want, api.OK)
		holdEncode(t, want+" in an array", list(v, v), "["+want+","+want+"]", api.OK)
		holdEncode(t, want+" in an object", api.Tree{Kind: api.Object, K: []string{"x", "y"}, V: []api.Tree{v, v}}, `{"x":`+want+`,"y":`+want+`}`, api.OK)
	}
}

// P8.1: nil and an empty list are one.
func TestEncodeEmptyLists(t *testing.T) {
	for want, v := range map[string]api.Tree{"null": null(), "true": truth(true), "0": number("0"), `"a"`: text("a"), "[]": list(), "{}": named()} {
		v.N.M, v.K, v.V = []uint32{}, []string{}, []api.Tree{}
		holdEncode(t, want, v, want, api.OK)
	}
}

// odd are values that may not be, of some of which a part alone could be written, or is too long, or has Bytes.
func odd() map[string]api.Tree {
	long := many(20, text(strings.Repeat("x", 2000)))
	withBytes := api.Tree{Kind: api.Array, V: append(slices.Clone(long), blob("a"), api.Tree{})}
	loop := list(null())
	loop.V[0] = loop
	l := map[string]api.Tree{
		"nothing": {}, "kind 8": {Kind: 8}, "kind -1": {Kind: -1}, "the least kind": {Kind: math.MinInt}, "kind 0 with items": {V: many(2, null())},
		"a text that is no UTF-8": text("\xff"), "a long text": text(strings.Repeat("x", 2001)), "long bytes": blob(strings.Repeat("x", 2001)),
		"a name that is no UTF-8": one("a\xff", null()), "a long name": one(strings.Repeat("x", 2001), null()),
		"a name twice": named("a", "a"), "names that fall": named("b", "a"),
		"more names": {Kind: api.Object, K: []string{"a", "b"}, V: many(1, null())}, "fewer names": {Kind: api.Object, K: []string{"a"}, V: many(2, null())},
		"a ten": {Kind: api.Number, N: api.Num{M: []uint32{10}}}, "minus nought": {Kind: api.Number, N: api.Num{Neg: true}}, "no room": {Kind: api.Number, N: api.Num{M: []uint32{1}, E: 1201}},
		"null with a truth": {Kind: api.Null, B: true}, "a text with items": {Kind: api.Text, V: many(1, null())}, "bytes with a number": {Kind: api.Bytes, N: num.Of(1)}, "an array with names": {Kind: api.Array, K: []string{"a"}, V: many(1, null())},
		"items": list(many(301, null())...), "members": named(manyNames(301)...), "values": crowd(2001),
		"depth": nest(64, null(), inArray), "depth of objects": nest(64, null(), inObject), "much depth": nest(100000, null(), inArray), "within itself": loop,
		"too long, with what may not be": list(append(slices.Clone(long), api.Tree{})...), "too long, with Bytes, with what may not be": withBytes,
	}
	return l
}

// P8.1
func TestEncodeArg(t *testing.T) {
	for what, v := range odd() {
		holdEncode(t, what, v, "", api.Arg)
		holdEncode(t, what+", behind a value", list(null(), v), "", api.Arg)
		holdEncode(t, what+", behind Bytes", list(blob("a"), v), "", api.Arg)
		holdEncode(t, what+", ahead of Bytes", list(v, blob("a")), "", api.Arg)
		holdEncode(t, what+", in an object", one("a", v), "", api.Arg)
	}
	for what, v := range map[string]api.Tree{"depth": nest(63, null(), inArray), "objects' depth": nest(63, null(), inObject), "values": crowd(2000), "items": list(many(300, null())...), "members": named(manyNames(300)...), "a text": text(strings.Repeat("x", 2000)), "a name": one(strings.Repeat("x", 2000), null())} {
		holdEncode(t, "all the room: "+what, v, textOf(v), api.OK)
	}
}

// P8.1
func TestEncodeUnrep(t *testing.T) {
	long := list(many(20, text(strings.Repeat("x", 2000)))...)
	for _, s := range []string{"", "a", "\xff", strings.Repeat("\x00", 2000)} {
		for i, v := range []api.Tree{
			blob(s), list(blob(s)), list(null(), blob(s)), list(blob(s), null()), one("a", blob(s)),
			{Kind: api.Object, K: []string{"a", "b"}, V: []api.Tree{null(), blob(s)}}, {Kind: api.Object, K: []string{"a", "b"}, V: []api.Tree{blob(s), null()}},
			nest(63, blob(s), inArray), nest(63, blob(s), inObject), list(list(), list(list(null()), blob(s)), list()),
			list(blob(s), long), list(long, blob(s)), list(long, long, list(one("a", blob(s)))),
		} {
			holdEncode(t, fmt.Sprintf("Bytes %.9q, %d", s, i), v, "", api.Unrep)
		}
	}
}

// filled is an array whose text has so many bytes, with that value at its end.
func filled(bytes int, last api.Tree) api.Tree {
	t := list()
	left := bytes - len("[]") - len(textOf(last))
	for left > 0 {
		most := min(left, 2003)
		if left-most > 0 && left-most < 3 { // what is left is less than an empty text and a comma
			most -= 3
		}
		t.V = append(t.V, text(strings.Repeat("x", most-3)))
		left -= most
	}
	t.V = append(t.V, last)
	return t
}

// P8.1
func TestEncodeLimit(t *testing.T) {
	for _, last := range []api.Tree{null(), truth(true), truth(false), number("0"), number("-1.5e-300"), text(""), text("a"), text("\x00\u20ac\""), list(), list(null()), list(null(), null()), named(), one("a", null()), one("a\n", list()), named("a", "b", "c"), list(list(named(), named()), text("a"))} {
		for _, around := range []func(api.Tree) api.Tree{func(v api.Tree) api.Tree { return v }, inArray, inObject} {
			last := around(last)
			for bytes := api.MaxFile - 5; bytes <= api.MaxFile+30; bytes += 1 + bytes/(api.MaxFile+10)*9 {
				for _, v := range []api.Tree{filled(bytes, last), one("", filled(bytes-len(`{"":}`), last))} {
					want, wantE := textOf(v), api.OK
					if len(want) != bytes {
						t.Fatalf("%d bytes, not %d", len(want), bytes)
					}
					if bytes > api.MaxFile {
						want, wantE = "", api.Limit
					}
					holdEncode(t, fmt.Sprintf("%d bytes with %s", bytes, textOf(last)), v, want, wantE)
				}
			}
		}
	}
}

// P8.1: what comes to very much more is refused, too, and takes no more time for that.
func TestEncodeVeryLong(t *testing.T) {
	noughts := strings.Repeat("\x00", 2000)
	var names []string
	for i := range 300 {
		names = append(names, noughts[:1996]+strconv.Itoa(1000+i))
	}
	object := api.Tree{Kind: api.Object, K: names, V: many(300, text(noughts))}
	for range 200 {
		holdEncode(t, "much", list(object, object, object), "", api.Limit)
	}
	holdEncode(t, "noughts", list(many(2, text(noughts))...), textOf(list(many(2, text(noughts))...)), api.OK)
	holdEncode(t, "noughts", list(many(3, text(noughts))...), "", api.Limit)
	holdEncode(t, "noughts as names", api.Tree{Kind: api.Object, K: names[:3], V: many(3, null())}, "", api.Limit)
	limbs := slices.Repeat([]uint32{math.MaxUint32}, api.MaxLimbs)
	long := api.Tree{Kind: api.Number, N: api.Num{Neg: true, M: limbs, E: -api.MaxExp}}
	room := api.MaxFile / (len(textOf(long)) + 1)
	holdEncode(t, "long numbers", list(many(room, long)...), textOf(list(many(room, long)...)), api.OK)
	holdEncode(t, "long numbers", list(many(room+1, long)...), "", api.Limit)
}

// R3: what is handed in stays, with what stands in its spare room.
func TestEncodeListsStay(t *testing.T) {
	v := func() api.Tree {
		return list(named("a", "b", "c"), list(number("-1.5"), text("x"), null()), one("a", list()))
	}
	kept, mine := v(), v()
	mine.V = append(mine.V, blob("spare"))[:3]
	json.Encode(mine)
	if !exact(mine, kept) || !exact(mine.V[:4][3], blob("spare")) || !tree.Check(mine) {
		t.Error("a value was changed:", mine)
	}
}

package cbor_test

import (
	"fmt"
	"math"
	"slices"
	"strconv"
	"strings"
	"testing"

	"erratum/api"
	"erratum/cbor"
	"erratum/num"
	"erratum/tree"
)

// holdEncode holds Encode against what it must answer.
func holdEncode(t *testing.T, what string, v api.Tree, want string, wantE api.Errno) {
	t.Helper()
	got, e := cbor.Encode(v)
	if string(got) != want || e != wantE {
		t.Errorf("Encode of %.80q: %s, %d, not %s, %d", what, short(string(got)), e, short(want), wantE)
	}
	if e != api.OK && got != nil {
		t.Errorf("Encode of %.80q: no nil beside %d", what, e)
	}
}

// P10.1
func TestEncodeNamed(t *testing.T) {
	two := func(first, second api.Tree) api.Tree {
		return api.Tree{Kind: api.Object, K: []string{"a", "b"}, V: []api.Tree{first, second}}
	}
	for want, v := range map[string]api.Tree{
		"f6": null(), "f4": truth(false), "f5": truth(true),
		"00": number("0"), "1903e8": number("1000"), "20": number("-1"), "f93e00": number("1.5"), "c4 82 20 01": number("0.1"),
		"60": text(""), "61 61": text("a"), "63 e282ac": text("\u20ac"), "64 f09d849e": text("\U0001d11e"), "64 6e756c6c": text("null"), "61 00": text("\x00"),
		"40": blob(""), "41 ff": blob("\xff"), "42 6161": blob("aa"), "43 000102": blob("\x00\x01\x02"),
		"80": list(), "81 f6": list(null()), "82 f6 f6": list(null(), null()), "81 80": list(list()), "82 80 a0": list(list(), named()), "83 01 82 02 81 03 a0": list(number("1"), list(number("2"), list(number("3"))), named()),
		"a0": named(), "a1 61 61 00": named("a"), "a1 60 00": named(""), "a3 61 61 00 61 62 01 61 63 02": named("a", "b", "c"), "a2 61 61 a1 61 62 a0 61 62 80": two(one("b", named()), list()), "a1 61 61 f9 3e 00": one("a", number("1.5")), "a2 61 61 81 f5 61 62 01": two(list(truth(true)), number("1")), "a2 61 61 40 61 62 60": two(blob(""), text("")),
		"a2 61 62 01 62 61 61 00": named("aa", "b"), "a4 60 00 61 62 03 62 61 61 01 63 61 61 61 02": named("", "aa", "aaa", "b"), "a3 61 7a 01 62 61 7a 00 62 c3 a9 02": named("az", "z", "\u00e9"), "a2 63 ef bf bf 00 64 f0 90 80 80 01": named("\uffff", "\U00010000"), "a2 61 39 01 62 31 30 00": named("10", "9"),
	} {
		want := bytesOf(want)
		holdEncode(t, want, v, want, api.OK)
		holdEncode(t, want+" in an array", list(v, v), "\x82"+want+want, api.OK)
		holdEncode(t, want+" in an object", two(v, v), "\xa2\x61a"+want+"\x61b"+want, api.OK)
	}
}

// P10.1: how many there are, at the edges of heads.
func TestEncodeHeads(t *testing.T) {
	for n, head := range map[int]string{0: "00", 1: "01", 22: "16", 23: "17", 24: "18 18", 25: "18 19", 100: "18 64", 255: "18 ff", 256: "19 01 00", 300: "19 01 2c", 2000: "19 07 d0"} {
		major := func(m int) string {
			b := []byte(bytesOf(head))
			b[0] += byte(m * 32)
			return string(b)
		}
		x := strings.Repeat("x", n)
		holdEncode(t, "a text", text(x), major(3)+x, api.OK)
		holdEncode(t, "bytes", blob(x), major(2)+x, api.OK)
		holdEncode(t, "a name", one(x, null()), "\xa1"+major(3)+x+"\xf6", api.OK)
		if n > api.MaxItems {
			continue
		}
		holdEncode(t, "an array", list(many(n, null())...), major(4)+strings.Repeat("\xf6", n), api.OK)
		var members strings.Builder
		for _, name := range manyNames(n) {
			members.WriteString("\x66" + name + "\xf6")
		}
		holdEncode(t, "an object", api.Tree{Kind: api.Object, K: manyNames(n), V: many(n, null())}, major(5)+members.String(), api.OK)
	}
}

// P10.1: the members in CBOR's order, each with its own value.
func TestEncodeOrder(t *testing.T) {
	var names []string
	for i := range 120 {
		names = append(names, strings.Repeat(string(rune('a'+i%7)), 1+i/7))
	}
	slices.Sort(names)
	v := named(names...)
	var want strings.Builder
	want.WriteString("\xb8\x78")
	for length := 1; length <= 18; length++ {
		for i, name := range names {
			if len(name) == length {
				want.WriteString(headOf(3, uint64(length)) + name + numberOf(num.Of(i)))
			}
		}
	}
	holdEncode(t, "many names", v, want.String(), api.OK)
}

// P10.1: nil and an empty list are one.
func TestEncodeEmptyLists(t *testing.T) {
	for want, v := range map[string]api.Tree{"\xf6": null(), "\xf5": truth(true), "\x00": number("0"), "\x61a": text("a"), "\x41a": blob("a"), "\x80": list(), "\xa0": named()} {
		v.N.M, v.K, v.V = []uint32{}, []string{}, []api.Tree{}
		holdEncode(t, want, v, want, api.OK)
	}
}

// odd are values that may not be, of some of which a part alone could be written, or is too long.
func odd() map[string]api.Tree {
	long := many(20, text(strings.Repeat("x", 2000)))
	loop := list(null())
	loop.V[0] = loop
	return map[string]api.Tree{
		"nothing": {}, "kind 8": {Kind: 8}, "kind -1": {Kind: -1}, "the least kind": {Kind: math.MinInt}, "kind 0 with items": {V: many(2, null())},
		"a text that is no UTF-8": text("\xff"), "a long text": text(strings.Repeat("x", 2001)), "long bytes": blob(strings.Repeat("x", 2001)),
		"a name that is no UTF-8": one("a\xff", null()), "a long name": one(strings.Repeat("x", 2001), null()),
		"a name twice": named("a", "a"), "names that fall": named("b", "a"), "names in CBOR's order": named("b", "aa"),
		"more names": {Kind: api.Object, K: []string{"a", "b"}, V: many(1, null())}, "fewer names": {Kind: api.Object, K: []string{"a"}, V: many(2, null())},
		"a ten": {Kind: api.Number, N: api.Num{M: []uint32{10}}}, "minus nought": {Kind: api.Number, N: api.Num{Neg: true}}, "no room": {Kind: api.Number, N: api.Num{M: []uint32{1}, E: 1201}},
		"null with a truth": {Kind: api.Null, B: true}, "a text with items": {Kind: api.Text, V: many(1, null())}, "bytes with a number": {Kind: api.Bytes, N: num.Of(1)}, "an array with names": {Kind: api.Array, K: []string{"a"}, V: many(1, null())},
		"items": list(many(301, null())...), "members": named(manyNames(301)...), "values": crowd(2001),
		"depth": nest(64, null(), inArray), "depth of objects": nest(64, null(), inObject), "much depth": nest(100000, null(), inArray), "within itself": loop,
		"too long, with what may not be": list(append(slices.Clone(long), api.Tree{})...),
	}
}

// P10.1
func TestEncodeArg(t *testing.T) {
	for what, v := range odd() {
		holdEncode(t, what, v, "", api.Arg)
		holdEncode(t, what+", behind a value", list(null(), v), "", api.Arg)
		holdEncode(t, what+", ahead of one", list(v, null()), "", api.Arg)
		holdEncode(t, what+", in an object", one("a", v), "", api.Arg)
	}
	for what, v := range map[string]api.Tree{"depth": nest(63, null(), inArray), "objects' depth": nest(63, null(), inObject), "values": crowd(2000), "items": list(many(300, null())...), "members": named(manyNames(300)...), "a text": text(strings.Repeat("x", 2000)), "bytes": blob(strings.Repeat("\xff", 2000)), "a name": one(strings.Repeat("x", 2000), null())} {
		holdEncode(t, "all the room: "+what, v, encodedOf(v), api.OK)
	}
}

// filled is an array of a few items that is encoded in so many bytes, with that value at its end.
func filled(bytes int, last api.Tree) api.Tree {
	t := list()
	for left := bytes - len("\x80") - len(encodedOf(last)); left > 0; {
		piece := min(left, 2003)
		if piece == 25 || piece == 258 { // no text is encoded in so many
			piece--
		}
		head := 3
		if piece <= 24 {
			head = 1
		} else if piece <= 257 {
			head = 2
		}
		t.V = append(t.V, text(strings.Repeat("x", piece-head)))
		left -= piece
	}
	t.V = append(t.V, last)
	return t
}

// P10.1
func TestEncodeLimit(t *testing.T) {
	for _, last := range []api.Tree{null(), truth(true), truth(false), number("0"), number("1000"), number("1.5"), number("-1.5e-300"), number("123456789012345678901234567890"), text(""), text("abc"), blob(""), blob("\xff\xff"), list(), list(null()), named(), one("a", null()), one("abcdef", list()), named("a", "b", "c"), list(text("a"), one("b", list(named())))} {
		for _, around := range []func(api.Tree) api.Tree{func(v api.Tree) api.Tree { return v }, inArray, inObject} {
			last := around(last)
			for bytes := api.MaxFile - 5; bytes <= api.MaxFile+30; bytes++ {
				for _, v := range []api.Tree{filled(bytes, last), one("", filled(bytes-len("\xa1\x60"), last))} {
					want, wantE := encodedOf(v), api.OK
					if len(want) != bytes {
						t.Fatalf("%d bytes, not %d", len(want), bytes)
					}
					if bytes > api.MaxFile {
						want, wantE = "", api.Limit
					}
					holdEncode(t, fmt.Sprintf("%d bytes with %x", bytes, encodedOf(last)), v, want, wantE)
				}
			}
		}
	}
}

// P10.1: what comes to very much more is refused, too, and takes no more time for that.
func TestEncodeVeryLong(t *testing.T) {
	x := strings.Repeat("x", 1996)
	var names []string
	for i := range 300 {
		names = append(names, x+strconv.Itoa(1000+i))
	}
	object := api.Tree{Kind: api.Object, K: names, V: many(300, text(x))}
	for range 200 {
		holdEncode(t, "much", list(object, object, object), "", api.Limit)
	}
	m := slices.Repeat([]uint32{math.MaxUint32}, api.MaxLimbs)
	long := api.Tree{Kind: api.Number, N: api.Num{Neg: true, M: m, E: -api.MaxExp}}
	room := (api.MaxFile - 2) / len(encodedOf(long))
	holdEncode(t, "long numbers", list(many(room, long)...), encodedOf(list(many(room, long)...)), api.OK)
	holdEncode(t, "long numbers", list(many(room+1, long)...), "", api.Limit)
}

// R3: what is handed in stays, with what stands in its spare room; and answers share nothing.
func TestEncodeMemory(t *testing.T) {
	v := func() api.Tree {
		return list(named("aa", "b", "c"), list(number("-1.5"), text("x"), blob("y")), one("a", list()))
	}
	kept, mine := v(), v()
	mine.V = append(mine.V, blob("spare"))[:3]
	first, _ := cbor.Encode(mine)
	want := string(first)
	second, _ := cbor.Encode(mine)
	clear(second[:cap(second)])
	if !exact(mine, kept) || !exact(mine.V[:4][3], blob("spare")) || !tree.Check(mine) {
		t.Error("a value was changed:", mine)
	}
	if string(first) != want {
		t.Errorf("two answers share memory: %x", first)
	}
}

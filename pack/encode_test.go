package pack_test

import (
	"fmt"
	"math"
	"slices"
	"strconv"
	"strings"
	"testing"

	"erratum/api"
	"erratum/num"
	"erratum/pack"
	"erratum/tree"
)

// holdEncode holds Encode against what it must answer.
func holdEncode(t *testing.T, what string, v api.Tree, want string, wantE api.Errno) {
	t.Helper()
	got, e := pack.Encode(v)
	if string(got) != want || e != wantE {
		t.Errorf("Encode of %.80q: %s, %d, not %s, %d", what, short(string(got)), e, short(want), wantE)
	}
	if e != api.OK && got != nil {
		t.Errorf("Encode of %.80q: no nil beside %d", what, e)
	}
}

// P12.1
func TestEncodeNamed(t *testing.T) {
	two := func(first, second api.Tree) api.Tree {
		return api.Tree{Kind: api.Object, K: []string{"a", "b"}, V: []api.Tree{first, second}}
	}
	for want, v := range map[string]api.Tree{
		"c0": null(), "c2": truth(false), "c3": truth(true),
		"00": number("0"), "cd03e8": number("1000"), "ff": number("-1"), "ca3fc00000": number("1.5"), "cb44 80f0cf064dd592": number("1e22"), "d0df": number("-33"),
		"a0": text(""), "a1 61": text("a"), "a3 e282ac": text("\u20ac"), "a4 f09d849e": text("\U0001d11e"), "a3 6e696c": text("nil"), "a1 00": text("\x00"),
		"c400": blob(""), "c401 ff": blob("\xff"), "c402 6161": blob("aa"), "c403 000102": blob("\x00\x01\x02"),
		"90": list(), "91 c0": list(null()), "92 c0 c0": list(null(), null()), "91 90": list(list()), "92 90 80": list(list(), named()), "93 01 92 02 91 03 80": list(number("1"), list(number("2"), list(number("3"))), named()),
		"80": named(), "81 a161 00": named("a"), "81 a0 00": named(""), "83 a161 00 a162 01 a163 02": named("a", "b", "c"), "82 a161 81 a162 80 a162 90": two(one("b", named()), list()), "81 a161 ca3fc00000": one("a", number("1.5")), "82 a161 91 c3 a162 01": two(list(truth(true)), number("1")), "82 a161 c400 a162 a0": two(blob(""), text("")),
		"82 a26161 00 a162 01": named("aa", "b"), "84 a0 00 a26161 01 a3616161 02 a162 03": named("", "aa", "aaa", "b"), "83 a2617a 00 a17a 01 a2c3a9 02": named("az", "z", "\u00e9"), "82 a3efbfbf 00 a4f0908080 01": named("\uffff", "\U00010000"), "82 a23130 00 a139 01": named("10", "9"),
	} {
		want := bytesOf(want)
		holdEncode(t, want, v, want, api.OK)
		holdEncode(t, want+" in an array", list(v, v), "\x92"+want+want, api.OK)
		holdEncode(t, want+" in an object", two(v, v), "\x82\xa1a"+want+"\xa1b"+want, api.OK)
	}
}

// P12.1: how many there are, at the edges of heads.
func TestEncodeHeads(t *testing.T) {
	for n, heads := range map[int][4]string{0: {"a0", "c400", "90", "80"}, 1: {"a1", "c401", "91", "81"}, 15: {"af", "c40f", "9f", "8f"}, 16: {"b0", "c410", "dc0010", "de0010"}, 31: {"bf", "c41f", "dc001f", "de001f"}, 32: {"d920", "c420", "dc0020", "de0020"}, 40: {"d928", "c428", "dc0028", "de0028"}, 255: {"d9ff", "c4ff", "dc00ff", "de00ff"}, 256: {"da0100", "c50100", "dc0100", "de0100"}, 300: {"da012c", "c5012c", "dc012c", "de012c"}, 2000: {"da07d0", "c507d0", "", ""}} {
		x := strings.Repeat("x", n)
		textHead, bytesHead, arrayHead, objectHead := bytesOf(heads[0]), bytesOf(heads[1]), bytesOf(heads[2]), bytesOf(heads[3])
		holdEncode(t, "a text", text(x), textHead+x, api.OK)
		holdEncode(t, "bytes", blob(x), bytesHead+x, api.OK)
		holdEncode(t, "a name", one(x, null()), "\x81"+textHead+x+"\xc0", api.OK)
		if n > api.MaxItems {
			continue
		}
		holdEncode(t, "an array", list(many(n, null())...), arrayHead+strings.Repeat("\xc0", n), api.OK)
		var members strings.Builder
		for _, name := range manyNames(n) {
			members.WriteString("\xa6" + name + "\xc0")
		}
		holdEncode(t, "an object", api.Tree{Kind: api.Object, K: manyNames(n), V: many(n, null())}, objectHead+members.String(), api.OK)
	}
}

// P12.1: the members in order by bytes, whatever their lengths, each with its own value.
func TestEncodeOrder(t *testing.T) {
	var names []string
	for i := range 120 {
		names = append(names, strings.Repeat(string(rune('a'+i%7)), 1+i/7))
	}
	slices.Sort(names)
	var want strings.Builder
	want.WriteString("\xde\x00\x78")
	for i, name := range names {
		want.WriteString(string([]byte{byte(0xa0 + len(name))}) + name + string([]byte{byte(i)}))
	}
	holdEncode(t, "many names", named(names...), want.String(), api.OK)
}

// P12.1: nil and an empty list are one.
func TestEncodeEmptyLists(t *testing.T) {
	for want, v := range map[string]api.Tree{"\xc0": null(), "\xc3": truth(true), "\x00": number("0"), "\xa1a": text("a"), "\xc4\x01a": blob("a"), "\x90": list(), "\x80": named()} {
		v.N.M, v.K, v.V = []uint32{}, []string{}, []api.Tree{}
		holdEncode(t, want, v, want, api.OK)
	}
}

// odd are values that may not be, of some of which a part alone could be written, or is too long, or is a number that there is not.
func odd() map[string]api.Tree {
	long := many(20, text(strings.Repeat("x", 2000)))
	loop := list(null())
	loop.V[0] = loop
	return map[string]api.Tree{
		"nothing": {}, "kind 8": {Kind: 8}, "kind -1": {Kind: -1}, "the least kind": {Kind: math.MinInt}, "kind 0 with items": {V: many(2, null())},
		"a text that is no UTF-8": text("\xff"), "a long text": text(strings.Repeat("x", 2001)), "long bytes": blob(strings.Repeat("x", 2001)),
		"a name that is no UTF-8": one("a\xff", null()), "a long name": one(strings.Repeat("x", 2001), null()),
		"a name twice": named("a", "a"), "names that fall": named("b", "a"), "names in CBOR's order": named("b", "aa"),
		"more names": {Kind: api.Object, K: []string{"a", "b"}, V: many(1, null())}, "fewer names": {Kind: api.Object, K: []string{"a"}, V: many(2, null())},
		"a ten": {Kind: api.Number, N: api.Num{M: []uint32{10}}}, "minus nought": {Kind: api.Number, N: api.Num{Neg: true}}, "no room": {Kind: api.Number, N: api.Num{M: []uint32{1}, E: 1201}},
		"null with a truth": {Kind: api.Null, B: true}, "a text with items": {Kind: api.Text, V: many(1, null())}, "bytes with a number": {Kind: api.Bytes, N: num.Of(1)}, "an array with names": {Kind: api.Array, K: []string{"a"}, V: many(1, null())}, "a number with a text": {Kind: api.Number, S: "1"},
		"items": list(many(301, null())...), "members": named(manyNames(301)...), "values": crowd(2001),
		"depth": nest(64, null(), inArray), "depth of objects": nest(64, null(), inObject), "much depth": nest(100000, null(), inArray), "within itself": loop,
		"too long, with what may not be": list(append(slices.Clone(long), api.Tree{})...), "a number that there is not, with what may not be": list(number("0.1"), api.Tree{}), "both": list(append(slices.Clone(long), number("0.1"), api.Tree{})...),
	}
}

// P12.1
func TestEncodeArg(t *testing.T) {
	for what, v := range odd() {
		holdEncode(t, what, v, "", api.Arg)
		holdEncode(t, what+", behind a value", list(null(), v), "", api.Arg)
		holdEncode(t, what+", behind a number that there is not", list(number("0.1"), v), "", api.Arg)
		holdEncode(t, what+", ahead of one", list(v, number("0.1")), "", api.Arg)
		holdEncode(t, what+", in an object", one("a", v), "", api.Arg)
	}
	for what, v := range map[string]api.Tree{"depth": nest(63, null(), inArray), "objects' depth": nest(63, null(), inObject), "values": crowd(2000), "items": list(many(300, null())...), "members": named(manyNames(300)...), "a text": text(strings.Repeat("x", 2000)), "bytes": blob(strings.Repeat("\xff", 2000)), "a name": one(strings.Repeat("x", 2000), null())} {
		holdEncode(t, "all the room: "+what, v, encodedOf(v), api.OK)
	}
}

// P12.1: a number that there is not, wherever it stands, is told ahead of what is too long.
func TestEncodeUnrep(t *testing.T) {
	long := many(20, text(strings.Repeat("x", 2000)))
	full := filled(api.MaxFile, null())
	for _, s := range []string{"0.1", "-0.1", "1e23", "1e30", "18446744073709551617", "-9223372036854775809", "-18446744073709551615", "1e1200", "-1e-1200", "9007199254740992.5"} {
		n := number(s)
		for what, v := range map[string]api.Tree{
			"alone": n, "an item": list(n), "the last of many": list(append(many(299, null()), n)...), "the first": list(append([]api.Tree{n}, many(299, null())...)...),
			"a member": one("a", n), "deep": nest(63, n, inArray), "deep in objects": nest(63, n, inObject), "between": list(one("a", list(number("1"))), list(one("b", n)), null()),
			"behind what is too long": list(append(slices.Clone(long), n)...), "ahead of what is too long": list(append([]api.Tree{n}, long...)...), "in its midst": list(append(append(slices.Clone(long), n), long...)...), "deep behind it": list(append(slices.Clone(long), nest(40, n, inObject))...),
			"behind a name that is too long": list(list(long[:16]...), one(strings.Repeat("y", 2000), n)), "where all the room is taken": list(full, n),
		} {
			if !tree.Check(v) {
				t.Fatal(what)
			}
			holdEncode(t, s+" "+what, v, "", api.Unrep)
		}
		holdEncode(t, s+" as a text", list(text(s), one(s, null())), encodedOf(list(text(s), one(s, null()))), api.OK)
	}
	holdEncode(t, "too long alone", list(long...), "", api.Limit)
	holdEncode(t, "one too many", list(full, null()), "", api.Limit)
}

// filled is an array of a few items that is encoded in so many bytes, with that value at its end.
func filled(bytes int, last api.Tree) api.Tree {
	t := list()
	left := bytes - len("\xdc\x00\x12") - len(encodedOf(last))
	for len(t.V) < 17 {
		piece := min(2003, left-(16-len(t.V))) // what is left has a byte each
		if piece == 33 || piece == 258 {       // no text is encoded in so many
			piece--
		}
		head := 3
		if piece <= 32 {
			head = 1
		} else if piece <= 257 {
			head = 2
		}
		t.V = append(t.V, text(strings.Repeat("x", piece-head)))
		left -= piece
	}
	t.V = append(t.V, last)
	return t
}

// P12.1
func TestEncodeLimit(t *testing.T) {
	for _, last := range []api.Tree{null(), truth(true), truth(false), number("0"), number("1000"), number("-1"), number("-40000"), number("1.5"), number("1e22"), text(""), text("abc"), blob(""), blob("\xff\xff"), list(), list(null()), named(), one("a", null()), one("abcdef", list()), named("a", "b", "c"), list(text("a"), one("b", list(named())))} {
		for _, around := range []func(api.Tree) api.Tree{func(v api.Tree) api.Tree { return v }, inArray, inObject} {
			last := around(last)
			for bytes := api.MaxFile - 5; bytes <= api.MaxFile+30; bytes++ {
				for _, v := range []api.Tree{filled(bytes, last), one("", filled(bytes-len("\x81\xa0"), last))} {
					want, wantE := encodedOf(v), api.OK
					if len(want) != bytes {
						t.Fatalf("%d bytes, not %d", len(want), bytes)
					}
					if bytes > api.MaxFile {
						want, wantE = "", api.Limit
					}
					holdEncode(t, fmt.Sprintf("%d bytes with %x", bytes, encodedOf(last)), v, want, wantE)
				}
			}
		}
	}
}

// P12.1: what is too long stays so, though what is behind it would have room.
func TestEncodeTooLongInItsMidst(t *testing.T) {
	x := text(strings.Repeat("x", 1997)) // 2000 bytes
	for n := 14; n <= 20; n++ {
		for _, behind := range []api.Tree{null(), text(""), list(), text(strings.Repeat("y", 500))} {
			v := list(append(many(n, x), many(20, behind)...)...)
			want, wantE := encodedOf(v), api.OK
			if len(want) > api.MaxFile {
				want, wantE = "", api.Limit
			}
			holdEncode(t, fmt.Sprint(n, " long ones"), v, want, wantE)
		}
	}
}

// P12.1: what comes to very much more is refused, too.
func TestEncodeVeryLong(t *testing.T) {
	x := strings.Repeat("x", 1996)
	var names []string
	for i := range 300 {
		names = append(names, x+strconv.Itoa(1000+i))
	}
	object := api.Tree{Kind: api.Object, K: names, V: many(300, text(x))}
	for range 100 {
		holdEncode(t, "much", list(object, object, object), "", api.Limit)
	}
	holdEncode(t, "much, with a number that there is not", list(object, object, number("0.1")), "", api.Unrep)
}

// R3: what is handed in stays, with what stands in its spare room; and answers share nothing.
func TestEncodeMemory(t *testing.T) {
	v := func() api.Tree {
		return list(named("aa", "b", "c"), list(number("-1.5"), text("x"), blob("y")), one("a", list()))
	}
	kept, mine := v(), v()
	mine.V = append(mine.V, blob("spare"))[:3]
	first, _ := pack.Encode(mine)
	want := string(first)
	second, _ := pack.Encode(mine)
	clear(second[:cap(second)])
	if !exact(mine, kept) || !exact(mine.V[:4][3], blob("spare")) || !tree.Check(mine) {
		t.Error("a value was changed:", mine)
	}
	if string(first) != want {
		t.Errorf("two answers share memory: %x", first)
	}
}

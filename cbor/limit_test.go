package cbor_test

import (
	"math/big"
	"strings"
	"testing"

	"erratum/api"
	"erratum/cbor"
	"erratum/tree"
)

// bigBytes is the natural that bytes are.
func bigBytes(b string) *big.Int { return new(big.Int).SetBytes([]byte(b)) }

// whatever is what may stand where there is no room, to no avail.
func whatever() []string {
	return []string{"\x00", "\x18", "\x1c", "\x1f", "\x40", "\x41", "\x59\x07\xd1", "\x60", "\x61\xff", "\x7f\xff", "\x80", "\x9f", "\x9f\xff", "\xa0", "\xa1\x01", "\xbf", "\xc0", "\xc2", "\xc2\x60", "\xc4\x82\x20\x01", "\xdf", "\xe0", "\xf6", "\xf7", "\xf8\x00", "\xf9\x7c\x00", "\xfc", "\xfe"}
}

// P10.3
func TestDecodeDepth(t *testing.T) {
	around := func(v api.Tree) api.Tree { return one("a", v) }
	for _, x := range []struct {
		ahead, behind string
		around        func(api.Tree) api.Tree
	}{
		{"\x81", "", inArray}, {"\x9f", "\xff", inArray}, {"\xa1\x60", "", inObject}, {"\xbf\x60", "\xff", inObject}, {"\xbf\x7f\x61a\xff", "\xff", around}, {"\x98\x01", "", inArray}, {"\xb8\x01\x61a", "", around},
	} {
		for depth := 60; depth <= 68; depth++ {
			ahead, behind := strings.Repeat(x.ahead, depth-1), strings.Repeat(x.behind, depth-1)
			for b, v := range map[string]api.Tree{"\xf6": null(), "\x01": number("1"), "\x61a": text("a"), "\x7f\x61a\x61b\xff": text("ab"), "\x80": list(), "\x9f\xff": list(), "\xa0": named(), "\xbf\xff": named(), "\xc2\x40": number("0"), "\xc4\x82\x20\x01": number("0.1")} {
				if depth <= api.MaxDepth {
					holdDecode(t, ahead+b+behind, nest(depth-1, v, x.around), api.OK)
				} else {
					refuse(t, ahead+b+behind, api.Limit)
				}
			}
		}
		ahead := strings.Repeat(x.ahead, 64)
		for _, b := range whatever() {
			refuse(t, ahead+b, api.Limit)
			refuse(t, ahead+b+"\x00", api.Limit)
		}
		refuse(t, ahead, api.Malformed) // nothing is there
		if x.ahead == "\x9f" {
			holdDecode(t, ahead+strings.Repeat("\xff", 64), nest(63, list(), inArray), api.OK)
		} else {
			refuse(t, ahead+"\xff", api.Malformed)
		}
		refuse(t, strings.Repeat(x.ahead, 63)+"\x1c", api.Malformed)
		refuse(t, strings.Repeat(x.ahead, 63)+"\xe0", api.Unsupported)
		refuse(t, strings.Repeat(x.ahead, 63)+"\x99\x01\x2d", api.Limit)
	}
	deep := strings.Repeat("\x81", 63)
	for _, b := range []string{"\xa1\x01", "\xa1\xff", "\xa1\x40", "\xbf\x80", "\xa1\x1c"} { // a name is no value
		refuse(t, deep+b, api.Unsupported)
	}
	for _, b := range []string{"\xa1", "\xa1\x60", "\xbf", "\xbf\x60", "\xa1\x61\xff", "\xa1\x7c", "\xa1\x60\xff", "\x81\xff", "\x81", "\x9f"} {
		refuse(t, deep+b, api.Malformed)
	}
	flat := "\x98\xc8" + strings.Repeat("\x81\x80", 200) // many one after the other are no deeper
	holdDecode(t, flat, list(many(200, list(list()))...), api.OK)
	refuse(t, strings.Repeat("\x81", api.MaxFile), api.Limit)
	refuse(t, strings.Repeat("\x9f", api.MaxFile), api.Limit)
	refuse(t, strings.Repeat("\xa1\x60", api.MaxFile/2), api.Limit)
}

// members are so many members of an object, with names that rise, each with the value 1.
func members(n int) string {
	return "\x66" + strings.Join(manyNames(n), "\x01\x66") + "\x01"
}

// P10.3
func TestDecodeItems(t *testing.T) {
	for n := 250; n <= 310; n++ {
		ones, names := list(many(n, number("1"))...), api.Tree{Kind: api.Object, K: manyNames(n), V: many(n, number("1"))}
		items := strings.Repeat("\x01", n)
		if n > api.MaxItems {
			for _, more := range []string{"", "\x01", items, "\x1c", "\xff"} {
				refuse(t, longHead(4, 2, uint64(n))+more, api.Limit)
				refuse(t, longHead(5, 2, uint64(n))+more, api.Limit)
				refuse(t, longHead(4, 8, uint64(n))+more, api.Limit)
				refuse(t, "\x81"+longHead(5, 4, uint64(n))+more, api.Limit)
				refuse(t, "\x9f"+items+more, api.Limit)
			}
			refuse(t, longHead(5, 2, uint64(n))+members(n), api.Limit)
			refuse(t, "\xbf"+members(n)+"\xff", api.Limit)
			continue
		}
		for _, head := range []string{longHead(4, 2, uint64(n)), longHead(4, 8, uint64(n))} {
			holdDecode(t, head+items, ones, api.OK)
		}
		holdDecode(t, "\x9f"+items+"\xff", ones, api.OK)
		holdDecode(t, longHead(5, 2, uint64(n))+members(n), names, api.OK)
		holdDecode(t, "\xbf"+members(n)+"\xff", names, api.OK)
		holdDecode(t, "\x83\x9f"+items+"\xff\xbf"+members(n)+"\xff"+longHead(4, 2, uint64(n))+items, list(ones, names, ones), api.OK) // each has a room of its own
	}
	for _, n := range []uint64{301, 0xffff, 1 << 16, 1 << 31, 1<<32 - 1, 1 << 32, 1<<32 + 1, 1 << 63, 1<<63 + 1, 1<<64 - 1} {
		for _, more := range []string{"", "\x60", "\x01", "\x1c", "\xff"} {
			refuse(t, longHead(4, 8, n)+more, api.Limit)
			refuse(t, longHead(5, 8, n)+more, api.Limit)
		}
	}
	items, twice := "\x9f"+strings.Repeat("\x01", 300), "\xbf"+strings.Repeat("\x60\x01", 300)
	for _, b := range whatever() {
		refuse(t, items+b, api.Limit)
		refuse(t, "\xbf"+members(300)+b, api.Limit)
		refuse(t, "\xa1\x60"+items+b, api.Limit)
		refuse(t, twice+b, api.Limit)
	}
	refuse(t, items, api.Malformed)
	refuse(t, "\xbf"+members(300), api.Malformed)
	refuse(t, twice, api.Malformed)
	refuse(t, twice+"\xff", api.Malformed)
	refuse(t, "\xbf"+members(299)+"\x60", api.Malformed)
	refuse(t, "\xbf"+members(299)+"\x60\xff", api.Malformed)
}

// rows are the bytes of crowd's value by open arrays, without the break of the outermost one.
func rows(nodes int) string {
	b := "\x9f"
	for left := nodes - 1; left > 0; {
		most := min(left, 250)
		b += "\x9f" + strings.Repeat("\xf6", most-1) + "\xff"
		left -= most
	}
	return b
}

// P10.3
func TestDecodeNodes(t *testing.T) {
	for n := 1990; n <= 2010; n++ {
		if n <= api.MaxNodes {
			holdDecode(t, rows(n)+"\xff", crowd(n), api.OK)
			holdDecode(t, "\x98"+string([]byte{byte((n - 1 + 249) / 250)})+rows(n)[1:], crowd(n), api.OK)
		} else {
			refuse(t, rows(n)+"\xff", api.Limit)
		}
	}
	full := rows(api.MaxNodes)
	for _, b := range whatever() {
		refuse(t, full+b, api.Limit)
		refuse(t, full[:len(full)-1]+b, api.Limit)
	}
	refuse(t, full, api.Malformed)
	refuse(t, full[:len(full)-1], api.Malformed)
	refuse(t, full+"\xff\x00", api.Malformed)
	b := "\x9f" + strings.Repeat("\xb8\xdc"+members(220), 9) // 1990 values, as names are none
	got, e := cbor.Decode([]byte(b + "\x89" + strings.Repeat("\xf6", 9) + "\xff"))
	if e != api.OK || tree.Nodes(got) != api.MaxNodes {
		t.Errorf("%d values with names: %d", tree.Nodes(got), e)
	}
	refuse(t, b+"\x8a"+strings.Repeat("\xf6", 10), api.Limit)
	before := b + "\x88" + strings.Repeat("\xf6", 8) // 1999
	for _, x := range []struct {
		b string
		e api.Errno
	}{
		{"\xa1\x60\x01", api.Limit}, {"\xa1\x60\x1c", api.Limit}, {"\xa1\x60\xff", api.Malformed}, {"\xa1\x60", api.Malformed}, {"\xa1\x01", api.Unsupported}, {"\xbf\x60\xe0", api.Limit}, {"\xbf\xff\xff", api.OK}, {"\xa0\xff", api.OK}, {"\xc4\x82\x20\x01\xff", api.OK}, {"\xa0\xf6", api.Limit}, {"\xc2\x41\x01\x1c", api.Limit}, {"\x99\x01\x2d", api.Limit}, {"\x81\xff", api.Malformed},
	} {
		if e := hold(t, before+x.b); e != x.e {
			t.Errorf("behind 1999 values, %x: %d, not %d", x.b, e, x.e)
		}
	}
}

// P10.3
func TestDecodeTextLimit(t *testing.T) {
	x := strings.Repeat("x", 2001)
	for n := 1990; n <= 2000; n++ {
		holdDecode(t, longHead(3, 2, uint64(n))+x[:n], text(x[:n]), api.OK)
		holdDecode(t, longHead(2, 4, uint64(n))+x[:n], blob(x[:n]), api.OK)
		holdDecode(t, "\xa1"+longHead(3, 8, uint64(n))+x[:n]+"\xf6", one(x[:n], null()), api.OK)
		holdDecode(t, "\x7f"+longHead(3, 2, uint64(n))+x[:n]+"\xff", text(x[:n]), api.OK)
		refuse(t, longHead(3, 2, uint64(n))+x[:n-1], api.Malformed)
		refuse(t, longHead(3, 2, uint64(n))+x[:n-1]+"\xff", api.Malformed)
	}
	for _, n := range []uint64{2001, 2002, 0xffff, 1 << 16, 1 << 31, 1 << 32, 1<<32 + 1, 1 << 63, 1<<64 - 1} { // at the head, whatever is behind
		for _, more := range []string{"", "\xff", x, "\x1c"} {
			for _, ahead := range append(values(), "\xa1", "\xbf", "\xa2\x60\x00") {
				refuse(t, ahead+longHead(3, 8, n)+more, api.Limit)
			}
			for _, ahead := range values() {
				refuse(t, ahead+longHead(2, 8, n)+more, api.Limit)
			}
		}
	}
	for _, major := range []int{2, 3} { // of open ones: behind the part
		open, piece := string([]byte{byte(major*32 + 31)}), longHead(major, 2, 1000)+x[:1000]
		end := string([]byte{byte(major * 32)})
		for _, ahead := range values() {
			v := open + piece + piece
			refuse(t, ahead+v, api.Malformed)
			refuse(t, ahead+v+"\x1c", api.Malformed)
			refuse(t, ahead+v+end, api.Malformed)
			one := string([]byte{byte(major*32 + 1)}) + "x"
			for _, more := range []string{"", "\xff", "\x1c", one, x} {
				refuse(t, ahead+v+one+more, api.Limit)
				refuse(t, ahead+v+end+end+one+more, api.Limit)
				refuse(t, ahead+open+longHead(major, 2, 2001)+x+more, api.Limit)
				refuse(t, ahead+open+one+longHead(major, 2, 2000)+x[:2000]+more, api.Limit)
			}
			refuse(t, ahead+v+one[:1], api.Malformed)
			refuse(t, ahead+open+longHead(major, 2, 2001)+x[:2000], api.Malformed)
			refuse(t, ahead+open+longHead(major, 2, 2000)+x[:1999], api.Malformed)
			refuse(t, ahead+v+longHead(major, 8, 1<<63)+x, api.Malformed)
			refuse(t, ahead+v+longHead(5-major, 2, 1)+x, api.Malformed)
		}
		want := api.Tree{Kind: map[int]int{2: api.Bytes, 3: api.Text}[major], S: x[:2000]}
		holdDecode(t, open+piece+piece+"\xff", want, api.OK)
		holdDecode(t, open+end+piece+end+piece+end+"\xff", want, api.OK)
	}
	refuse(t, "\x7f"+longHead(3, 2, 2001)+x[:2000]+"\xff", api.Malformed) // what is no UTF-8 is told ahead of the limit
	holdDecode(t, "\x7f"+strings.Repeat("\x61x", 2000)+"\xff", text(x[:2000]), api.OK)
	refuse(t, "\x7f"+strings.Repeat("\x61x", 2001)+"\xff", api.Limit)
	holdDecode(t, "\x5f"+strings.Repeat("\x40", 30000)+"\xff", blob(""), api.OK)
	refuse(t, "\x5f"+longHead(2, 2, 2000)+x[:2000]+"\x41\xff", api.Limit)
	euro := strings.Repeat("\u20ac", 667) // bytes count, not code points
	refuse(t, longHead(3, 2, 2001)+euro, api.Limit)
	holdDecode(t, longHead(3, 2, 1998)+euro[:1998], text(euro[:1998]), api.OK)
	name := "\x7f" + longHead(3, 2, 1000) + x[:1000]
	refuse(t, "\xa1"+name+longHead(3, 2, 1001)+x[:1001], api.Limit)
	holdDecode(t, "\xbf"+name+longHead(3, 2, 1000)+x[:1000]+"\xff\xf6\xff", one(x[:2000], null()), api.OK)
}

// P10.3
func TestDecodeSize(t *testing.T) {
	for off := -3; off <= 3; off++ {
		size := api.MaxFile + off
		open := "\x5f" + strings.Repeat("\x40", size-2) + "\xff"
		if len(open) != size {
			t.Fatal(len(open))
		}
		if size <= api.MaxFile {
			holdDecode(t, open, blob(""), api.OK)
			refuse(t, open[:size-1]+"\x1c", api.Malformed)
			refuse(t, strings.Repeat("\x1c", size), api.Malformed)
			refuse(t, strings.Repeat("\xe0", size), api.Unsupported)
			refuse(t, strings.Repeat("\xf6", size), api.Malformed)
		} else {
			for _, b := range []string{open, open[:size-1] + "\x1c", strings.Repeat("\x1c", size), strings.Repeat("\xe0", size), strings.Repeat("\xf6", size), "\xff" + strings.Repeat("\x00", size-1)} {
				refuse(t, b, api.Limit)
			}
		}
	}
	refuse(t, strings.Repeat("\x00", 1<<24), api.Limit)
}

// P10.3: of several things that are wrong the first one is told.
func TestDecodeFirstWrong(t *testing.T) {
	unsupported, malformed, limit := []string{"\xe0", "\xc0", "\xf7", "\xf9\x7c\x00", "\xc2\x60", "\xa1\x01"}, []string{"\x1c", "\x1f", "\xf8\x00", "\x61\xff", "\x7f\x41", "\xa2\x60\x00\x60\x00"}, []string{"\x79\x07\xd1", "\x99\x01\x2d", "\xb9\x01\x2d", "\xc4\x82\x19\x04\xb1\x01", "\xc2\x59\x07\xd1"}
	kinds := map[api.Errno][]string{api.Unsupported: unsupported, api.Malformed: malformed, api.Limit: limit}
	for e, firsts := range kinds {
		for _, first := range firsts {
			for _, seconds := range kinds {
				for _, second := range seconds {
					for _, ahead := range []string{"", "\x82", "\x9f", "\xa2\x60", "\xbf\x61a", "\x9f\xbf\x60\x00\x61z\x82"} {
						refuse(t, ahead+first+second, e)
						refuse(t, ahead+first+"\xff"+second, e)
						refuse(t, ahead+first+"\x60"+second, e)
					}
				}
			}
		}
	}
}

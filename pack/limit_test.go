package pack_test

import (
	"strings"
	"testing"

	"erratum/api"
	"erratum/pack"
	"erratum/tree"
)

// noRoom holds Decode of what stands ahead, behind which there is no room for a value, with anything behind it: only what is wrong with a head is told ahead of that.
func noRoom(t *testing.T, ahead string) {
	t.Helper()
	for _, b := range []string{"\x00", "\xff", "\xc0", "\xc2", "\xcc\x01", "\xd3\x00\x00\x00\x00\x00\x00\x00\x01", "\xca\x3f\xc0\x00\x00", "\xca\x7f\x80\x00\x00", "\xcb\x7f\xf8\x00\x00\x00\x00\x00\x00", "\xa0", "\xa1", "\xa1\xff", "\xa1a", "\xda\x07\xd1", "\xdb\xff\xff\xff\xff", "\xc4\x00", "\xc4\x05", "\xc5\x07\xd1", "\x90", "\x91", "\xdc\x01\x2d", "\x80", "\x81", "\x81\x01", "\x82\xa0\x00\xa0\x00", "\xde\x01\x2d", "\xd4\x01", "\xd8\x01", "\xc7\x00\x01", "\xc9\xff\xff\xff\xff\x01"} {
		for _, more := range []string{"", "\x00", "\xc1", "\xcc"} {
			refuse(t, ahead+b+more, api.Limit)
		}
	}
	for _, b := range []string{"", "\xcc", "\xcd\x00", "\xd3\x00\x00\x00\x00\x00\x00\x00", "\xca\x7f\x80", "\xd9", "\xda\x07", "\xdb\xff\xff\xff", "\xc4", "\xdc\x01", "\xdf\xff", "\xd4", "\xc7\x00", "\xc9\xff\xff\xff\xff"} {
		refuse(t, ahead+b, api.Malformed)
	}
	for _, more := range []string{"", "\x00", "\xc1", "\xcc"} {
		refuse(t, ahead+"\xc1"+more, api.Unsupported)
	}
}

// P12.2
func TestDecodeDepth(t *testing.T) {
	around := func(v api.Tree) api.Tree { return one("a", v) }
	for _, x := range []struct {
		ahead  string
		around func(api.Tree) api.Tree
	}{
		{"\x91", inArray}, {"\xdc\x00\x01", inArray}, {"\xdd\x00\x00\x00\x01", inArray}, {"\x81\xa0", inObject}, {"\x81\xa1a", around}, {"\xde\x00\x01\xd9\x01a", around},
	} {
		for depth := 60; depth <= 68; depth++ {
			ahead := strings.Repeat(x.ahead, depth-1)
			for b, v := range map[string]api.Tree{"\xc0": null(), "\x01": number("1"), "\xa1a": text("a"), "\xc4\x01a": blob("a"), "\x90": list(), "\xdc\x00\x00": list(), "\x80": named(), "\xca\x3f\xc0\x00\x00": number("1.5")} {
				if depth <= api.MaxDepth {
					holdDecode(t, ahead+b, nest(depth-1, v, x.around), api.OK)
				} else {
					refuse(t, ahead+b, api.Limit)
				}
			}
		}
		noRoom(t, strings.Repeat(x.ahead, 64))
		last := strings.Repeat(x.ahead, 63)
		for b, e := range map[string]api.Errno{"": api.Malformed, "\xcc": api.Malformed, "\xc1": api.Unsupported, "\xd4\x01": api.Unsupported, "\xca\x7f\x80\x00\x00": api.Unsupported, "\xdc\x01\x2d": api.Limit, "\xa1\xff": api.Malformed, "\x00\x00": api.Malformed} {
			refuse(t, last+b, e)
		}
	}
	deep := strings.Repeat("\x91", 63)
	for b, e := range map[string]api.Errno{"\x81": api.Malformed, "\x81\xa0": api.Malformed, "\x81\xa0\x01": api.Limit, "\x81\x01": api.Unsupported, "\x81\xd4": api.Malformed, "\x81\xd4\x01": api.Unsupported, "\x81\xa1\xff": api.Malformed, "\x81\xda\x07\xd1": api.Limit, "\x81\xa0\xcc": api.Malformed, "\x81\x90": api.Unsupported} { // a name is no value
		refuse(t, deep+b, e)
	}
	flat := "\xdc\x00\xc8" + strings.Repeat("\x91\x90", 200) // many one after the other are no deeper
	holdDecode(t, flat, list(many(200, list(list()))...), api.OK)
	refuse(t, strings.Repeat("\x91", api.MaxFile), api.Limit)
	refuse(t, strings.Repeat("\x81\xa0", api.MaxFile/2), api.Limit)
	refuse(t, strings.Repeat("\xdc\x01\x2c", api.MaxFile/3), api.Limit)
}

// members are so many members of an object, with names that rise, each with the value 1.
func members(n int) string {
	return "\xa6" + strings.Join(manyNames(n), "\x01\xa6") + "\x01"
}

// P12.2
func TestDecodeItems(t *testing.T) {
	for n := 250; n <= 310; n++ {
		ones, names := list(many(n, number("1"))...), api.Tree{Kind: api.Object, K: manyNames(n), V: many(n, number("1"))}
		items := strings.Repeat("\x01", n)
		for _, head := range headsOf("array", uint64(n)) {
			if n <= api.MaxItems {
				holdDecode(t, head+items, ones, api.OK)
				holdDecode(t, "\x92"+head+items+head+items, list(ones, ones), api.OK) // each has a room of its own
				refuse(t, head+items[1:], api.Malformed)
				refuse(t, head+items[1:]+"\xc1", api.Unsupported)
				refuse(t, head+items+"\x01", api.Malformed)
			} else {
				noMore(t, head, items)
			}
		}
		for _, head := range headsOf("object", uint64(n)) {
			if n <= api.MaxItems {
				holdDecode(t, head+members(n), names, api.OK)
				holdDecode(t, "\x92"+head+members(n)+head+members(n), list(names, names), api.OK)
				refuse(t, head+members(n)[:8*(n-1)], api.Malformed)
				refuse(t, head+members(n)+"\xa0\x01", api.Malformed)
			} else {
				noMore(t, head, members(n))
			}
		}
	}
	for _, n := range []uint64{301, 1000, 2000, 2001, 1 << 15, 1<<16 - 1, 1 << 16, 1<<16 + 1, 1 << 31, 1<<32 - 1} {
		for _, kind := range []string{"array", "object"} {
			for _, head := range headsOf(kind, n) {
				noMore(t, head, "\xa0")
			}
		}
	}
}

// noMore holds Decode of a head with too large a number against Limit, whatever stands behind it, wherever a value may be.
func noMore(t *testing.T, head, behind string) {
	t.Helper()
	for _, ahead := range values() {
		for _, more := range []string{"", behind, "\x01", "\xc1", "\xcc", "\xd4\x01", "\xa1\xff"} {
			refuse(t, ahead+head+more, api.Limit)
		}
		refuse(t, ahead+head[:len(head)-1], api.Malformed)
	}
}

// rows are the bytes of crowd's value.
func rows(nodes int) string {
	return encodedOf(crowd(nodes))
}

// P12.2
func TestDecodeNodes(t *testing.T) {
	for n := 1990; n <= 2010; n++ {
		if n <= api.MaxNodes {
			holdDecode(t, rows(n), crowd(n), api.OK)
		} else {
			refuse(t, rows(n), api.Limit)
		}
	}
	full := rows(api.MaxNodes + 1)
	noRoom(t, full[:len(full)-1])
	noRoom(t, rows(2100)[:len(full)-1])
	refuse(t, rows(api.MaxNodes)+"\xc0", api.Malformed) // no value is to be there
	refuse(t, rows(api.MaxNodes)+"\xc1", api.Malformed)
	b := "\x9a" + strings.Repeat("\xde\x00\xdc"+members(220), 9) // 1990 values, as names are none
	got, e := pack.Decode([]byte(b + "\x99" + strings.Repeat("\xc0", 9)))
	if e != api.OK || tree.Nodes(got) != api.MaxNodes {
		t.Errorf("%d values with names: %d", tree.Nodes(got), e)
	}
	refuse(t, b+"\x9a"+strings.Repeat("\xc0", 10), api.Limit)
	noRoom(t, b+"\x9a"+strings.Repeat("\xc0", 9))
	before := b + "\x99" + strings.Repeat("\xc0", 8) // 1999
	for _, x := range []struct {
		b string
		e api.Errno
	}{
		{"\x81\xa0\x01", api.Limit}, {"\x81\xa0\xc1", api.Unsupported}, {"\x81\xa0\xcc", api.Malformed}, {"\x81\xa0\xd4\x01", api.Limit}, {"\x81\xa0", api.Malformed}, {"\x81\x01", api.Unsupported}, {"\x81\xd4\x01", api.Unsupported}, {"\x80", api.OK}, {"\x90", api.OK}, {"\xa1a", api.OK}, {"\x80\xc0", api.Malformed}, {"\xd4\x01", api.Unsupported}, {"\xdc\x01\x2d", api.Limit}, {"\x91\xc1", api.Unsupported}, {"\x91\xa0", api.Limit}, {"", api.Malformed}, {"\xca\x7f\x80\x00\x00", api.Unsupported}, {"\x82\xa0\x01", api.Limit}, {"\x81\xda\x07\xd1", api.Limit},
	} {
		if e := hold(t, before+x.b); e != x.e {
			t.Errorf("behind 1999 values, %x: %d, not %d", x.b, e, x.e)
		}
	}
}

// P12.2
func TestDecodeTextLimit(t *testing.T) {
	x := strings.Repeat("x", 2001)
	for n := 1990; n <= 2000; n++ {
		for _, head := range headsOf("text", uint64(n)) {
			holdDecode(t, head+x[:n], text(x[:n]), api.OK)
			holdDecode(t, "\x81"+head+x[:n]+"\x92\x01"+head+x[:n], one(x[:n], list(number("1"), text(x[:n]))), api.OK)
			refuse(t, head+x[:n-1], api.Malformed)
			refuse(t, head+x[:n]+"x", api.Malformed)
			refuse(t, "\x81"+head+x[:n-1], api.Malformed)
		}
		for _, head := range headsOf("bytes", uint64(n)) {
			holdDecode(t, "\x91"+head+x[:n], list(blob(x[:n])), api.OK)
			refuse(t, head+x[:n-1], api.Malformed)
			refuse(t, head+x[:n]+"x", api.Malformed)
		}
	}
	for _, n := range []uint64{2001, 2002, 3000, 1<<15 - 1, 1 << 15, 1<<16 - 1, 1 << 16, 1<<16 + 7, 1 << 31, 1<<32 - 1} {
		for _, head := range headsOf("text", n) {
			noMore(t, head, x)
			noMore(t, head, "\xff"+x)
			for _, ahead := range names() {
				for _, more := range []string{"", x, "\xff", "\xc1"} {
					refuse(t, ahead+head+more, api.Limit)
				}
				refuse(t, ahead+head[:len(head)-1], api.Malformed)
			}
		}
		for _, head := range headsOf("bytes", n) {
			noMore(t, head, x)
			for _, ahead := range names() {
				refuse(t, ahead+head+x, api.Unsupported)
			}
		}
	}
	euro := strings.Repeat("\u20ac", 667) // bytes count, not code points
	refuse(t, "\xda\x07\xd1"+euro, api.Limit)
	holdDecode(t, "\xda\x07\xce"+euro[:1998], text(euro[:1998]), api.OK)
	refuse(t, "\xda\x07\xd0"+euro[:2000], api.Malformed)
}

// P12.2
func TestDecodeSize(t *testing.T) {
	x := text(strings.Repeat("x", 1997)) // 2000 bytes
	for off := -3; off <= 3; off++ {
		size := api.MaxFile + off
		v := filled(size, list(x, number("1e22"), truth(true)))
		b := encodedOf(v)
		if len(b) != size {
			t.Fatal(len(b))
		}
		if size <= api.MaxFile {
			holdDecode(t, b, v, api.OK)
			refuse(t, b[:size-1]+"\xc1", api.Unsupported)
			refuse(t, b[:size-1]+"\xcc", api.Malformed)
			refuse(t, strings.Repeat("\xc1", size), api.Unsupported)
			refuse(t, strings.Repeat("\xc0", size), api.Malformed)
		} else {
			for _, b := range []string{b, b[:size-1] + "\xc1", strings.Repeat("\xc1", size), strings.Repeat("\xc0", size), "\xff" + strings.Repeat("\x00", size-1), strings.Repeat("\xd4", size)} {
				refuse(t, b, api.Limit)
			}
		}
	}
	refuse(t, strings.Repeat("\x00", 1<<24), api.Limit)
}

// P12.2: of several things that are wrong the first one is told.
func TestDecodeFirstWrong(t *testing.T) {
	kinds := map[api.Errno][]string{
		api.Unsupported: {"\xc1", "\xd4\x01", "\xc7\x00\x05", "\xca\x7f\x80\x00\x00", "\x81\x01", "\x81\xc1", "\x91\xc1"},
		api.Malformed:   {"\xa1\xff", "\xa2\xc3\x28", "\x82\xa0\x00\xa0\x00", "\x81\xa1\x80", "\x91\xa1\xff"},
		api.Limit:       {"\xda\x07\xd1", "\xc5\x07\xd1", "\xdc\x01\x2d", "\xde\x01\x2d", "\x81\xda\x07\xd1", strings.Repeat("\x91", 64) + "\xc0"},
	}
	for e, firsts := range kinds {
		for _, first := range firsts {
			for _, seconds := range kinds {
				for _, second := range seconds {
					for _, ahead := range []string{"", "\x92", "\xdc\x00\x04", "\x82\xa0", "\x82\xa1a", "\x92\x82\xa0\x00\xa1z\x92"} {
						refuse(t, ahead+first+second, e)
						refuse(t, ahead+first+"\xc0"+second, e)
						refuse(t, ahead+first+"\xa0"+second, e)
					}
				}
			}
		}
	}
}

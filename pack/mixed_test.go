package pack_test

import (
	"bytes"
	"encoding/binary"
	"math/rand"
	"slices"
	"strings"
	"testing"

	"erratum/api"
	"erratum/pack"
	"erratum/tree"
)

// thereAndBack holds a value, which may be, against P12.1 and P12.3, and answers Encode's error.
func thereAndBack(t *testing.T, v api.Tree) api.Errno {
	t.Helper()
	b, e := pack.Encode(v)
	want := ""
	if unrep(v) {
		if b != nil || e != api.Unrep {
			t.Fatalf("%v: %d", v, e)
		}
		return e
	} else if want = encodedOf(v); len(want) > api.MaxFile {
		if b != nil || e != api.Limit {
			t.Fatalf("%d bytes: %d", len(want), e)
		}
		return e
	} else if string(b) != want || e != api.OK {
		t.Fatalf("Encode: %s, %d, not %s", short(string(b)), e, short(want))
	}
	back, e := pack.Decode(b)
	if e != api.OK || !tree.Same(back, v) || !exact(back, v) || !tree.Check(back) {
		t.Fatalf("%s decoded: %v, %d", short(string(b)), back, e)
	}
	if again, e := pack.Encode(back); !bytes.Equal(again, b) || e != api.OK {
		t.Fatalf("%s encoded again: %s, %d", short(string(b)), short(string(again)), e)
	}
	return api.OK
}

// mixedText is a text of code points of all lengths.
func mixedText(r *rand.Rand, most int) string {
	var b strings.Builder
	for range r.Intn(most + 1) {
		b.WriteRune([]rune{'a', 'b', 0, 0x7f, 0x80, 0xe9, 0x7ff, 0x800, 0x20ac, 0xd7ff, 0xe000, 0xfffd, 0xffff, 0x10000, 0x10ffff, 'z'}[r.Intn(16)])
	}
	return b.String()
}

// mixedBytes are any.
func mixedBytes(r *rand.Rand, most int) string {
	b := make([]byte, r.Intn(most+1))
	r.Read(b)
	return string(b)
}

// mixedValue is a value of any shape, with numbers of that kind.
func mixedValue(r *rand.Rand, depth int, number func(*rand.Rand) api.Num) api.Tree {
	switch kind := r.Intn(10); {
	case kind == 0:
		return null()
	case kind == 1:
		return truth(r.Intn(2) == 0)
	case kind == 2:
		return api.Tree{Kind: api.Number, N: number(r)}
	case kind == 3:
		return blob(mixedBytes(r, 30))
	case kind == 4 || depth == 0:
		return text(mixedText(r, 12))
	case kind < 8:
		t := list()
		for range r.Intn(6) {
			t.V = append(t.V, mixedValue(r, depth-1, number))
		}
		return t
	}
	t := named()
	for range r.Intn(6) {
		t = tree.Set(t, mixedText(r, 4), mixedValue(r, depth-1, number))
	}
	return t
}

// P12.1, P12.3
func TestThereAndBackMixed(t *testing.T) {
	r := rand.New(rand.NewSource(123))
	counts := map[api.Errno]int{}
	for i := range 3000 {
		counts[thereAndBack(t, mixedValue(r, i%7, hadNum))]++
		counts[thereAndBack(t, mixedValue(r, i%7, mixedNum))]++
	}
	if counts[api.OK] < 3000 || counts[api.Unrep] < 300 {
		t.Error(counts)
	}
	for i := range 300 {
		thereAndBack(t, text(mixedText(r, 2*i)))
		thereAndBack(t, blob(mixedBytes(r, 6*i)))
	}
}

// P12.3: values with all the room there may be.
func TestThereAndBackLimits(t *testing.T) {
	for _, v := range []api.Tree{
		nest(63, null(), inArray), nest(63, list(), inArray), nest(63, named(), inObject), list(nest(31, text("a"), func(v api.Tree) api.Tree { return list(one("\n", v)) })),
		crowd(2000), list(many(300, list())...), named(manyNames(300)...), list(many(6, named(manyNames(300)...))...),
		text(strings.Repeat("x", 2000)), blob(strings.Repeat("\xff", 2000)), text(strings.Repeat("\U0010ffff", 500)), one(strings.Repeat("\x1f", 2000), text(strings.Repeat("\"", 2000))), list(many(16, text(strings.Repeat("x", 2000)))...), list(many(17, text(strings.Repeat("x", 2000)))...), list(append(many(17, text(strings.Repeat("x", 2000))), number("0.1"))...),
		list(many(300, number("18446744073709551615"))...), list(many(300, number("-9223372036854775808"))...), list(many(300, number("1e22"))...),
		filled(api.MaxFile, null()), filled(api.MaxFile, named("a", "b")), filled(api.MaxFile+1, null()),
	} {
		if !tree.Check(v) {
			t.Fatal("a value that may not be, of kind", v.Kind)
		}
		thereAndBack(t, v)
		if tree.Nodes(v) < api.MaxNodes && tree.Depth(v) < api.MaxDepth {
			thereAndBack(t, list(v))
			thereAndBack(t, one("a", v))
		}
	}
}

// P12.3: what is decoded from another way to write it is encoded as it is.
func TestOtherWays(t *testing.T) {
	for b, v := range good() {
		if b, e := pack.Encode(v); string(b) != encodedOf(v) || e != api.OK {
			t.Errorf("Encode of %v: %x, %d", v, b, e)
		}
		back, e := pack.Decode([]byte(bytesOf(b)))
		again, againE := pack.Encode(back)
		if string(again) != encodedOf(v) || e != api.OK || againE != api.OK {
			t.Errorf("%s decoded and encoded: %x, %d, %d", b, again, e, againE)
		}
	}
}

// P12.2: each byte at each place, put in, and put in place of what stands there.
func TestDecodeEveryByte(t *testing.T) {
	for b := range good() {
		b := bytesOf(b)
		if len(b) > 14 {
			continue
		}
		for _, b := range []string{b, "\x92\xa1x" + b, "\x82\xa1x" + b + "\xa1y\x00"} {
			for at := range len(b) + 1 {
				for c := range 256 {
					one := string([]byte{byte(c)})
					hold(t, b[:at]+one+b[at:])
					hold(t, b[:at]+one+b[min(at+1, len(b)):])
				}
			}
		}
	}
}

// P12.2: all there is of two bytes, and of a few more that are at edges.
func TestDecodeAllShort(t *testing.T) {
	for first := range 256 {
		hold(t, string([]byte{byte(first)}))
		for second := range 256 {
			hold(t, string([]byte{byte(first), byte(second)}))
			hold(t, string([]byte{byte(first), byte(second), 1, 'a', 0}))
		}
	}
	edges := "\x00\x01\x7f\x80\x81\x82\x90\x91\x92\xa0\xa1\xbf\xc0\xc1\xc4\xc7\xcc\xcd\xd0\xd4\xd9\xda\xdc\xde\xff"
	counts := map[api.Errno]int{}
	var extend func(b string, left int)
	extend = func(b string, left int) {
		counts[hold(t, b)]++
		if left == 0 {
			return
		}
		for i := range len(edges) {
			extend(b+edges[i:i+1], left-1)
		}
	}
	extend("", 4)
	if counts[api.OK] < 500 || counts[api.Malformed] < 50000 || counts[api.Unsupported] < 20000 || counts[api.Limit] < 500 {
		t.Error(counts)
	}
}

// pieces are bytes of a value, part by part, in any way to write it.
func pieces(r *rand.Rand, depth int) []string {
	simple := []string{"\xc0", "\xc2", "\xc3", "\x00", "\x7f", "\xcc\x05", "\xff", "\xe0", "\xd1\x01\x00", "\xd0\x80", "\xcf\xff\xff\xff\xff\xff\xff\xff\xff", "\xd3\x80\x00\x00\x00\x00\x00\x00\x00", "\xca\x3f\xc0\x00\x00", "\xca\x80\x00\x00\x00", "\xcb\x3f\xb9\x99\x99\x99\x99\x99\x9a", "\xcb\x00\x00\x00\x00\x00\x00\x00\x01", "\xa0", "\xa1a", "\xa2\xc3\xa9", "\xd9\x01b", "\xda\x00\x01c", "\xc4\x00", "\xc4\x02\xff\x00", "\xc6\x00\x00\x00\x01\xc1"}
	if depth == 0 || r.Intn(2) == 0 {
		return []string{simple[r.Intn(len(simple))]}
	}
	kind, count := []string{"array", "object"}[r.Intn(2)], r.Intn(4)
	heads := headsOf(kind, uint64(count))
	l := []string{heads[r.Intn(len(heads))]}
	for range count {
		if kind == "object" {
			names := []string{"\xa1a", "\xa1b", "\xa0", "\xa2\xc3\xa9", "\xd9\x01c", "\xa1d", "\xa1e", "\xa2aa", "\xda\x00\x01a"}
			l = append(l, names[r.Intn(len(names))])
		}
		l = append(l, pieces(r, depth-1)...)
	}
	return l
}

// disturb takes out a part, or puts one in, or puts another in its place, or cuts what is behind it.
func disturb(r *rand.Rand, l []string) []string {
	others := []string{"\xff", "\x90", "\x91", "\x80", "\x81", "\x82", "\x01", "\xcc", "\xc1", "\xa1a", "\xa1", "\xa1\xff", "\xa0", "\xda\x07\xd1", "\xc5\x07\xd1", "\xdc\x01\x2d", "\xdf\x00\x00\x01\x2d", "\xd4\x01", "\xd4", "\xc7\x00\x01", "\xca\x7f\x80\x00\x00", "\xca\x7f", "\xd9", "\xde\x00\x01", "\xdc\x00\x00"}
	at, other := r.Intn(len(l)), others[r.Intn(len(others))]
	switch r.Intn(4) {
	case 0:
		return slices.Delete(l, at, at+1)
	case 1:
		return slices.Insert(l, at, other)
	case 2:
		l[at] = other
		return l
	}
	return l[:at]
}

// P12.2: values in any way to write them, some of them disturbed.
func TestDecodeMixed(t *testing.T) {
	r := rand.New(rand.NewSource(122))
	counts := map[api.Errno]int{}
	for i := range 60000 {
		l := pieces(r, i%6)
		for range r.Intn(3) {
			if len(l) > 0 {
				l = disturb(r, l)
			}
		}
		counts[hold(t, strings.Join(l, ""))]++
	}
	for _, e := range []api.Errno{api.OK, api.Malformed, api.Unsupported, api.Limit} {
		if counts[e] < 500 {
			t.Error(counts)
		}
	}
}

// P12.2: any bytes.
func TestDecodeAnyBytes(t *testing.T) {
	r := rand.New(rand.NewSource(3))
	for i := range 100000 {
		hold(t, mixedBytes(r, 1+i%40))
	}
}

// P12.2: floats of all exponents.
func TestDecodeFloats(t *testing.T) {
	r := rand.New(rand.NewSource(32))
	for i := range 1 << 12 {
		hold(t, string(binary.BigEndian.AppendUint32([]byte{0xca}, uint32(i)<<20|r.Uint32()>>12)))
		hold(t, string(binary.BigEndian.AppendUint32([]byte{0xca}, uint32(i)<<20)))
		hold(t, string(binary.BigEndian.AppendUint32([]byte{0xca}, uint32(i)<<20|1)))
		hold(t, string(binary.BigEndian.AppendUint64([]byte{0xcb}, uint64(i)<<52|r.Uint64()>>12)))
		hold(t, string(binary.BigEndian.AppendUint64([]byte{0xcb}, uint64(i)<<52)))
		hold(t, string(binary.BigEndian.AppendUint64([]byte{0xcb}, uint64(i)<<52|1)))
	}
}

// R3: what is handed in stays, is not kept, and what is answered shares nothing.
func TestDecodeMemory(t *testing.T) {
	for b, v := range good() {
		b := bytesOf(b)
		mine := append([]byte(b), "spare"...)[:len(b)]
		first, _ := pack.Decode(mine)
		second, _ := pack.Decode(mine)
		if string(mine[:len(b)+5]) != b+"spare" {
			t.Errorf("Decode changed what it was given: %x", mine)
		}
		for i := range mine {
			mine[i] = 0xee
		}
		spoil(second)
		if !exact(first, v) {
			t.Errorf("%x is not what it was: %v", b, first)
		}
	}
}

// spoil writes to all lists of a value, spare room, too.
func spoil(t api.Tree) {
	for _, v := range t.V {
		spoil(v)
	}
	clear(t.N.M[:cap(t.N.M)])
	clear(t.K[:cap(t.K)])
	clear(t.V[:cap(t.V)])
}

// R3: no two lists of one answer share memory.
func TestDecodeListsApart(t *testing.T) {
	v, e := pack.Decode([]byte("\x94\xca\x3f\xc0\x00\x00\xca\x3f\xc0\x00\x00\x82\xa1a\x91\x01\xa1b\x91\x01\x82\xa1a\x91\x01\xa1b\x91\x01"))
	if e != api.OK {
		t.Fatal(e)
	}
	members := api.Tree{Kind: api.Object, K: []string{"a", "b"}, V: []api.Tree{list(number("1")), list(number("1"))}}
	spoil(v.V[0])
	spoil(v.V[2].V[0])
	if !exact(v.V[1], number("1.5")) || !exact(v.V[3], members) || !exact(v.V[2].V[1], list(number("1"))) {
		t.Error(v)
	}
	spoil(v.V[2])
	if !exact(v.V[3], members) {
		t.Error(v)
	}
}

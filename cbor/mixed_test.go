package cbor_test

import (
	"bytes"
	"encoding/binary"
	"math"
	"math/big"
	"math/rand"
	"slices"
	"strings"
	"testing"

	"erratum/api"
	"erratum/cbor"
	"erratum/num"
	"erratum/tree"
)

// thereAndBack holds a value, which may be, against P10.4.
func thereAndBack(t *testing.T, v api.Tree) {
	t.Helper()
	b, e := cbor.Encode(v)
	if want := encodedOf(v); len(want) > api.MaxFile {
		if b != nil || e != api.Limit {
			t.Fatalf("%d bytes: %d", len(want), e)
		}
		return
	} else if string(b) != want || e != api.OK {
		t.Fatalf("Encode: %s, %d, not %s", short(string(b)), e, short(want))
	}
	back, e := cbor.Decode(b)
	if e != api.OK || !tree.Same(back, v) || !exact(back, v) || !tree.Check(back) {
		t.Fatalf("%s decoded: %v, %d", short(string(b)), back, e)
	}
	if again, e := cbor.Encode(back); !bytes.Equal(again, b) || e != api.OK {
		t.Fatalf("%s encoded again: %s, %d", short(string(b)), short(string(again)), e)
	}
}

// mixedText is a text of code points of all lengths.
func mixedText(r *rand.Rand, most int) string {
	var b strings.Builder
	for range r.Intn(most + 1) {
		b.WriteRune([]rune{'a', 'b', 0, 0x7f, 0x80, 0xe9, 0x7ff, 0x800, 0x20ac, 0xd7ff, 0xe000, 0xfffd, 0xffff, 0x10000, 0x10ffff, 'z'}[r.Intn(16)])
	}
	return b.String()
}

// mixedBytes are any.
func mixedBytes(r *rand.Rand, most int) string {
	b := make([]byte, r.Intn(most+1))
	r.Read(b)
	return string(b)
}

// mixedValue is a value of any shape.
func mixedValue(r *rand.Rand, depth int) api.Tree {
	switch kind := r.Intn(10); {
	case kind == 0:
		return null()
	case kind == 1:
		return truth(r.Intn(2) == 0)
	case kind == 2:
		return api.Tree{Kind: api.Number, N: mixedNum(r)}
	case kind == 3:
		return blob(mixedBytes(r, 30))
	case kind == 4 || depth == 0:
		return text(mixedText(r, 12))
	case kind < 8:
		t := list()
		for range r.Intn(6) {
			t.V = append(t.V, mixedValue(r, depth-1))
		}
		return t
	}
	t := named()
	for range r.Intn(6) {
		t = tree.Set(t, mixedText(r, 4), mixedValue(r, depth-1))
	}
	return t
}

// P10.4
func TestThereAndBackMixed(t *testing.T) {
	r := rand.New(rand.NewSource(104))
	for i := range 4000 {
		thereAndBack(t, mixedValue(r, i%7))
	}
	for i := range 300 {
		thereAndBack(t, text(mixedText(r, 2*i)))
		thereAndBack(t, blob(mixedBytes(r, 6*i)))
	}
}

// P10.4: values with all the room there may be.
func TestThereAndBackLimits(t *testing.T) {
	full := slices.Repeat([]uint32{math.MaxUint32}, api.MaxLimbs)
	for _, v := range []api.Tree{
		nest(63, null(), inArray), nest(63, list(), inArray), nest(63, named(), inObject), list(nest(31, text("a"), func(v api.Tree) api.Tree { return list(one("\n", v)) })),
		crowd(2000), list(many(300, list())...), named(manyNames(300)...), list(many(6, named(manyNames(300)...))...),
		text(strings.Repeat("x", 2000)), blob(strings.Repeat("\xff", 2000)), text(strings.Repeat("\U0010ffff", 500)), one(strings.Repeat("\x1f", 2000), text(strings.Repeat("\"", 2000))), list(many(16, text(strings.Repeat("x", 2000)))...), list(many(17, text(strings.Repeat("x", 2000)))...),
		{Kind: api.Number, N: api.Num{M: full, E: 1200}}, {Kind: api.Number, N: api.Num{Neg: true, M: full, E: -1200}}, {Kind: api.Number, N: api.Num{M: full}}, {Kind: api.Number, N: api.Num{Neg: true, M: full}}, {Kind: api.Number, N: api.Num{M: full, E: -880}}, number("1e1200"), number("-1e-1200"),
		filled(api.MaxFile, null()), filled(api.MaxFile, named("a", "b")), filled(api.MaxFile+1, null()),
	} {
		if !tree.Check(v) {
			t.Fatal("a value that may not be, of kind", v.Kind)
		}
		thereAndBack(t, v)
		if tree.Nodes(v) < api.MaxNodes && tree.Depth(v) < api.MaxDepth {
			thereAndBack(t, list(v))
			thereAndBack(t, one("a", v))
		}
	}
}

// P10.4: what is decoded from another way to write it is encoded as it is.
func TestOtherWays(t *testing.T) {
	for b, v := range good() {
		if b, e := cbor.Encode(v); string(b) != encodedOf(v) || e != api.OK {
			t.Errorf("Encode of %v: %x, %d", v, b, e)
		}
		back, e := cbor.Decode([]byte(bytesOf(b)))
		again, againE := cbor.Encode(back)
		if string(again) != encodedOf(v) || e != api.OK || againE != api.OK {
			t.Errorf("%s decoded and encoded: %x, %d, %d", b, again, e, againE)
		}
	}
}

// P10.3: each byte at each place, put in, and put in place of what stands there.
func TestDecodeEveryByte(t *testing.T) {
	for b := range good() {
		b := bytesOf(b)
		if len(b) > 14 {
			continue
		}
		for _, b := range []string{b, "\x82\x61x" + b, "\xbf\x61x" + b + "\xff"} {
			for at := range len(b) + 1 {
				for c := range 256 {
					one := string([]byte{byte(c)})
					hold(t, b[:at]+one+b[at:])
					hold(t, b[:at]+one+b[min(at+1, len(b)):])
				}
			}
		}
	}
}

// P10.3: all there is of two bytes, and of a few more that are at edges.
func TestDecodeAllShort(t *testing.T) {
	for first := range 256 {
		hold(t, string([]byte{byte(first)}))
		for second := range 256 {
			hold(t, string([]byte{byte(first), byte(second)}))
		}
	}
	edges := "\x00\x01\x18\x1c\x20\x41\x5f\x61\x7f\x80\x81\x82\x9f\xa1\xbf\xc2\xc3\xc4\xd8\xf6\xf8\xf9\xff"
	counts := map[api.Errno]int{}
	var extend func(b string, left int)
	extend = func(b string, left int) {
		counts[hold(t, b)]++
		if left == 0 {
			return
		}
		for i := range len(edges) {
			extend(b+edges[i:i+1], left-1)
		}
	}
	extend("", 4)
	if counts[api.OK] < 500 || counts[api.Malformed] < 50000 || counts[api.Unsupported] < 20000 {
		t.Error(counts)
	}
}

// pieces are bytes of a value, part by part, in any way to write it.
func pieces(r *rand.Rand, depth int) []string {
	simple := []string{"\xf6", "\xf5", "\xf4", "\x00", "\x17", "\x18\x05", "\x20", "\x39\x01\x00", "\x1b\xff\xff\xff\xff\xff\xff\xff\xff", "\x3b\xff\xff\xff\xff\xff\xff\xff\xff", "\xf9\x3e\x00", "\xf9\x80\x00", "\xfa\x3d\xcc\xcc\xcd", "\xfb\x00\x00\x00\x00\x00\x00\x00\x01", "\x60", "\x61a", "\x62\xc3\xa9", "\x78\x01b", "\x40", "\x42\xff\x00"}
	switch kind := r.Intn(10); {
	case kind == 0:
		return []string{"\xc2", "\x43", "\x01\x00\x00"}
	case kind == 1:
		return []string{"\xc4", "\x82", []string{"\x20", "\x02", "\x38\x30"}[r.Intn(3)], []string{"\x01", "\x20", "\xc2\x42\x01\x00", "\xc3\x41\x05"}[r.Intn(4)]}
	case kind == 2:
		return []string{"\x7f", "\x61a", "\x60", "\x62\xc3\xa9", "\xff"}
	case kind == 3:
		return []string{"\x5f", "\x41\xff", "\xff"}
	case kind < 5 || depth == 0:
		return []string{simple[r.Intn(len(simple))]}
	}
	object, open, many := r.Intn(2) == 0, r.Intn(2) == 0, r.Intn(4)
	major := 4
	if object {
		major = 5
	}
	head := headOf(major, uint64(many))
	if open {
		head = string([]byte{byte(major*32 + 31)})
	}
	l := []string{head}
	for range many {
		if object {
			names := []string{"\x61a", "\x61b", "\x60", "\x62\xc3\xa9", "\x7f\x61c\xff", "\x61d", "\x61e", "\x62aa", "\x78\x01a"}
			l = append(l, names[r.Intn(len(names))])
		}
		l = append(l, pieces(r, depth-1)...)
	}
	if open {
		l = append(l, "\xff")
	}
	return l
}

// disturb takes out a part, or puts one in, or puts another in its place, or cuts what is behind it.
func disturb(r *rand.Rand, l []string) []string {
	others := []string{"\xff", "\x9f", "\xbf", "\x7f", "\x5f", "\x80", "\x81", "\xa1", "\x01", "\x18", "\x1c", "\x1f", "\x61a", "\x61", "\x61\xff", "\x79\x07\xd1", "\x59\x07\xd1", "\x99\x01\x2d", "\xc0", "\xc2", "\xc3", "\xc4", "\xc4\x82\x19\x04\xb1\x01", "\xd8\x04", "\xdf", "\xe0", "\xf7", "\xf8\x10", "\xf8\x20", "\xf9\x7c\x00", "\xf9"}
	at, other := r.Intn(len(l)), others[r.Intn(len(others))]
	switch r.Intn(4) {
	case 0:
		return slices.Delete(l, at, at+1)
	case 1:
		return slices.Insert(l, at, other)
	case 2:
		l[at] = other
		return l
	}
	return l[:at]
}

// P10.3: values in any way to write them, some of them disturbed.
func TestDecodeMixed(t *testing.T) {
	r := rand.New(rand.NewSource(103))
	counts := map[api.Errno]int{}
	for i := range 60000 {
		l := pieces(r, i%6)
		for range r.Intn(3) {
			if len(l) > 0 {
				l = disturb(r, l)
			}
		}
		counts[hold(t, strings.Join(l, ""))]++
	}
	for _, e := range []api.Errno{api.OK, api.Malformed, api.Unsupported, api.Limit} {
		if counts[e] < 500 {
			t.Error(counts)
		}
	}
}

// P10.3: any bytes.
func TestDecodeAnyBytes(t *testing.T) {
	r := rand.New(rand.NewSource(3))
	for i := range 100000 {
		hold(t, mixedBytes(r, 1+i%40))
	}
}

// P10.3: all floats of 16 bits, and many of the others.
func TestDecodeFloats(t *testing.T) {
	for bits := range 1 << 16 {
		hold(t, string(binary.BigEndian.AppendUint16([]byte{0xf9}, uint16(bits))))
	}
	r := rand.New(rand.NewSource(16))
	for i := range 1 << 12 {
		hold(t, string(binary.BigEndian.AppendUint32([]byte{0xfa}, uint32(i)<<20|r.Uint32()>>12)))
		hold(t, string(binary.BigEndian.AppendUint32([]byte{0xfa}, uint32(i)<<20)))
		hold(t, string(binary.BigEndian.AppendUint64([]byte{0xfb}, uint64(i)<<52|r.Uint64()>>12)))
		hold(t, string(binary.BigEndian.AppendUint64([]byte{0xfb}, uint64(i)<<52)))
	}
}

// P10.3: whole numbers by heads and by tags, of all lengths.
func TestDecodeWhole(t *testing.T) {
	r := rand.New(rand.NewSource(2))
	for i := range 20000 {
		n := r.Uint64() >> r.Intn(64)
		for major := range 2 {
			x := new(big.Int).SetUint64(n)
			if major == 1 {
				x.Not(x)
			}
			want, _ := num.Make(major == 1, limbsOf(x), 0)
			for _, width := range widths {
				if width == 8 || n>>(8*width) == 0 {
					holdDecode(t, longHead(major, width, n), api.Tree{Kind: api.Number, N: want}, api.OK)
				}
			}
		}
		b := mixedBytes(r, 1+i%400)
		tens := headOf(r.Intn(2), uint64(r.Intn(1400)))
		for _, tag := range []string{"\xc2", "\xc3"} {
			hold(t, tag+headOf(2, uint64(len(b)))+b)
			hold(t, "\xc4\x82"+tens+tag+headOf(2, uint64(len(b)))+b)
		}
		hold(t, "\xc4\x82"+tens+headOf(r.Intn(2), n))
	}
}

// R3: what is handed in stays, is not kept, and what is answered shares nothing.
func TestDecodeMemory(t *testing.T) {
	for b, v := range good() {
		b := bytesOf(b)
		mine := append([]byte(b), "spare"...)[:len(b)]
		first, _ := cbor.Decode(mine)
		second, _ := cbor.Decode(mine)
		if string(mine[:len(b)+5]) != b+"spare" {
			t.Errorf("Decode changed what it was given: %x", mine)
		}
		for i := range mine {
			mine[i] = 0xee
		}
		spoil(second)
		if !exact(first, v) {
			t.Errorf("%x is not what it was: %v", b, first)
		}
	}
}

// spoil writes to all lists of a value, spare room, too.
func spoil(t api.Tree) {
	for _, v := range t.V {
		spoil(v)
	}
	clear(t.N.M[:cap(t.N.M)])
	clear(t.K[:cap(t.K)])
	clear(t.V[:cap(t.V)])
}

// R3: no two lists of one answer share memory.
func TestDecodeListsApart(t *testing.T) {
	v, e := cbor.Decode([]byte("\x84\xc4\x82\x20\x01\xc4\x82\x20\x01\xa2\x61a\x81\x01\x61b\x81\x01\xa2\x61a\x81\x01\x61b\x81\x01"))
	if e != api.OK {
		t.Fatal(e)
	}
	members := api.Tree{Kind: api.Object, K: []string{"a", "b"}, V: []api.Tree{list(number("1")), list(number("1"))}}
	spoil(v.V[0])
	spoil(v.V[2].V[0])
	if !exact(v.V[1], number("0.1")) || !exact(v.V[3], members) || !exact(v.V[2].V[1], list(number("1"))) {
		t.Error(v)
	}
	spoil(v.V[2])
	if !exact(v.V[3], members) {
		t.Error(v)
	}
}

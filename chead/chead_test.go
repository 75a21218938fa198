package chead_test

import (
	"bytes"
	"encoding/binary"
	"math"
	"math/rand"
	"slices"
	"testing"

	"erratum/api"
	"erratum/chead"
)

// widths are how many bytes a number has behind a first byte, by infos from 24 on.
var widths = []int{1, 2, 4, 8}

// head is what one is, of a number in a width's bytes; of width 0 in the first byte itself.
func head(major, width int, n uint64) []byte {
	whole := binary.BigEndian.AppendUint64(nil, n)
	first := byte(major * 32)
	if width == 0 {
		return []byte{first + byte(n)}
	}
	return append([]byte{first + 24 + byte(slices.Index(widths, width))}, whole[8-width:]...)
}

// width is the least that has room for a number.
func width(n uint64) int {
	if n < 24 {
		return 0
	}
	for _, w := range widths[:3] {
		if n>>(8*w) == 0 {
			return w
		}
	}
	return 8
}

// numbers are at the edges of all widths and near them, and one in each place of a bit.
func numbers() []uint64 {
	l := []uint64{0, 1, 2, 22, 23, 24, 25, 27, 28, 31, 32, 500, 0x0102, 0x01020304, 0x0102030405060708, 0xfedcba9876543210}
	for bit := range 64 {
		n := uint64(1) << bit
		l = append(l, n-1, n, n+1, n-2, n|n>>1, ^n)
	}
	return append(l, math.MaxUint64, math.MaxUint64-1)
}

// got is what Get answers.
type got struct {
	major, info int
	n           uint64
	next        int
	e           api.Errno
}

// get is Get, in one.
func get(b []byte, at int) got {
	major, info, n, next, e := chead.Get(b, at)
	return got{major, info, n, next, e}
}

// gotOf is what Get must answer.
func gotOf(b []byte, at int) got {
	if at < 0 || at > len(b) {
		return got{e: api.Arg}
	}
	if at == len(b) {
		return got{e: api.Malformed}
	}
	major, info := int(b[at])/32, int(b[at])%32
	switch {
	case info < 24:
		return got{major, info, uint64(info), at + 1, api.OK}
	case info == 31:
		return got{major, info, 0, at + 1, api.OK}
	case info > 27 || len(b)-at-1 < widths[info-24]:
		return got{e: api.Malformed}
	}
	w := widths[info-24]
	whole := append(make([]byte, 8-w), b[at+1:at+1+w]...)
	return got{major, info, binary.BigEndian.Uint64(whole), at + 1 + w, api.OK}
}

// P9.1
func TestPutNamed(t *testing.T) {
	for _, x := range []struct {
		major int
		n     uint64
		want  string
	}{
		{0, 0, "\x00"}, {0, 10, "\x0a"}, {0, 23, "\x17"}, {0, 24, "\x18\x18"}, {0, 31, "\x18\x1f"}, {0, 255, "\x18\xff"},
		{1, 256, "\x39\x01\x00"}, {2, 500, "\x59\x01\xf4"}, {3, 65535, "\x79\xff\xff"}, {4, 65536, "\x9a\x00\x01\x00\x00"},
		{5, 0x01020304, "\xba\x01\x02\x03\x04"}, {6, math.MaxUint32, "\xda\xff\xff\xff\xff"},
		{7, 1 << 32, "\xfb\x00\x00\x00\x01\x00\x00\x00\x00"}, {7, 0x0102030405060708, "\xfb\x01\x02\x03\x04\x05\x06\x07\x08"},
		{1, math.MaxUint64, "\x3b\xff\xff\xff\xff\xff\xff\xff\xff"},
		{7, 20, "\xf4"}, {7, 0x3c00, "\xf9\x3c\x00"},
	} {
		if b := chead.Put(nil, x.major, x.n); string(b) != x.want {
			t.Errorf("Put(nil, %d, %d): %x", x.major, x.n, b)
		}
	}
	if chead.Open != 31 {
		t.Error(chead.Open)
	}
}

// P9.1
func TestPutMajors(t *testing.T) {
	for _, n := range []uint64{0, 23, 24, 500, 1 << 16, 1 << 40, math.MaxUint64} {
		for major := range 8 {
			want := head(major, width(n), n)
			for _, m := range []int{major, major + 8, major - 8, major + 16, major + 32, major + 256, major - 256, major + 1<<20, major + 1<<40, math.MinInt + major, math.MaxInt - 7 + major} {
				if b := chead.Put(nil, m, n); !bytes.Equal(b, want) {
					t.Errorf("Put(nil, %d, %d): %x", m, n, b)
				}
			}
		}
	}
}

// P9.1, P9.2
func TestThereAndBack(t *testing.T) {
	for _, n := range numbers() {
		for major := range 8 {
			want := head(major, width(n), n)
			for _, ahead := range []string{"", "\x00", "\xff", "\x1b\x01", "abcdefghijklmnopq"} {
				b := chead.Put([]byte(ahead), major, n)
				if string(b) != ahead+string(want) {
					t.Fatalf("Put(%q, %d, %d): %x", ahead, major, n, b)
				}
				whole := got{major, int(want[0]) % 32, n, len(b), api.OK}
				if g := get(b, len(ahead)); g != whole {
					t.Fatalf("Get(%x, %d): %v", b, len(ahead), g)
				}
				if g := get(append(b, 0x1b, 0xff, 0), len(ahead)); g != whole {
					t.Fatalf("Get of %x and bytes behind it, %d: %v", b, len(ahead), g)
				}
				for end := len(ahead); end < len(b); end++ {
					if g := get(b[:end], len(ahead)); g != (got{e: api.Malformed}) {
						t.Fatalf("Get(%x, %d): %v", b[:end], len(ahead), g)
					}
				}
			}
		}
	}
}

// P9.2
func TestMoreBytesThanNeeded(t *testing.T) {
	for _, n := range numbers() {
		for major := range 8 {
			for i, w := range widths {
				if w < width(n) {
					continue
				}
				b := head(major, w, n)
				if g := get(b, 0); g != (got{major, 24 + i, n, 1 + w, api.OK}) {
					t.Fatalf("Get(%x, 0): %v", b, g)
				}
			}
		}
	}
}

// P9.1
func TestGetNamed(t *testing.T) {
	for _, x := range []struct {
		b    string
		at   int
		want got
	}{
		{"\x00", 0, got{0, 0, 0, 1, api.OK}},
		{"\x37", 0, got{1, 23, 23, 1, api.OK}},
		{"\x59\x01\xf4", 0, got{2, 25, 500, 3, api.OK}},
		{"\x59\x01\xf4", 1, got{0, 1, 1, 2, api.OK}},
		{"\x59\x01\xf4", 2, got{7, 20, 20, 3, api.OK}},
		{"\x59\x01\xf4", 3, got{e: api.Malformed}},
		{"\x59\x01\xf4", 4, got{e: api.Arg}},
		{"\x59\x01\xf4", -1, got{e: api.Arg}},
		{"\x18\x00", 0, got{0, 24, 0, 2, api.OK}},
		{"\x1b\x00\x00\x00\x00\x00\x00\x00\x00", 0, got{0, 27, 0, 9, api.OK}},
		{"\x9f", 0, got{4, chead.Open, 0, 1, api.OK}},
		{"\x1f", 0, got{0, chead.Open, 0, 1, api.OK}},
		{"\xdf\x01\x02", 0, got{6, chead.Open, 0, 1, api.OK}},
		{"\x00\xff\x01", 1, got{7, chead.Open, 0, 2, api.OK}},
		{"\xf9\x7e\x00", 0, got{7, 25, 0x7e00, 3, api.OK}},
		{"\xfa\x80\x00\x00\x00", 0, got{7, 26, 0x80000000, 5, api.OK}},
		{"\x18", 0, got{e: api.Malformed}},
		{"\x19\x01", 0, got{e: api.Malformed}},
		{"\x1a\x01\x02\x03", 0, got{e: api.Malformed}},
		{"\x1b\x01\x02\x03\x04\x05\x06\x07", 0, got{e: api.Malformed}},
		{"\x1c", 0, got{e: api.Malformed}},
		{"\x1d\x01\x02\x03\x04\x05\x06\x07\x08\x09", 0, got{e: api.Malformed}},
		{"\xfe\x01\x02\x03\x04\x05\x06\x07\x08\x09", 0, got{e: api.Malformed}},
		{"", 0, got{e: api.Malformed}},
		{"", 1, got{e: api.Arg}},
		{"", -1, got{e: api.Arg}},
	} {
		if g := get([]byte(x.b), x.at); g != x.want {
			t.Errorf("Get(%x, %d): %v", x.b, x.at, g)
		}
	}
}

// P9.1
func TestGetEveryFirstByte(t *testing.T) {
	for first := range 256 {
		for many := range 12 {
			for _, fill := range []byte{0, 1, 0x1c, 0x80, 0xff} {
				b := append([]byte{7, byte(first)}, bytes.Repeat([]byte{fill}, many)...)
				for i := range many {
					b[2+i] += byte(i)
				}
				for at := range len(b) + 1 {
					if g, want := get(b, at), gotOf(b, at); g != want {
						t.Fatalf("Get(%x, %d): %v, not %v", b, at, g, want)
					}
				}
			}
		}
	}
}

// P9.1, and R1 of the page of rules
func TestGetPlacesOutside(t *testing.T) {
	for _, b := range [][]byte{nil, {}, {0}, {0x1c}, {0x18}, {0x1b, 0, 0}, {0x9f, 0xff}, make([]byte, 40)} {
		for _, at := range []int{-1, -2, -len(b) - 1, len(b) + 1, len(b) + 2, 1 << 32, -1 << 32, math.MinInt, math.MinInt + 1, math.MaxInt, math.MaxInt - 1, math.MaxInt - 8} {
			if g := get(b, at); g != (got{e: api.Arg}) {
				t.Errorf("Get(%x, %d): %v", b, at, g)
			}
		}
	}
	room := append(make([]byte, 0, 16), 0x1b, 1, 2)
	if g := get(room, 0); g != (got{e: api.Malformed}) {
		t.Errorf("Get has bytes of spare room: %v", g)
	}
	if g := get(room, 4); g != (got{e: api.Arg}) {
		t.Errorf("Get is at a place in spare room: %v", g)
	}
}

// P9.1, P9.2: heads one behind the other are got as they were put.
func TestManyHeads(t *testing.T) {
	type put struct {
		major int
		n     uint64
	}
	r := rand.New(rand.NewSource(9))
	var l []put
	var b []byte
	for range 3000 {
		p := put{r.Intn(8), r.Uint64() >> r.Intn(64)}
		l = append(l, p)
		b = chead.Put(b, p.major, p.n)
	}
	at := 0
	for i, p := range l {
		g := get(b, at)
		if g.major != p.major || g.n != p.n || g.e != api.OK || g.next-at != 1+width(p.n) {
			t.Fatalf("head %d of %d, %d: %v", i, p.major, p.n, g)
		}
		at = g.next
	}
	if at != len(b) {
		t.Errorf("%d bytes, %d were got", len(b), at)
	}
	for at := range len(b) + 1 {
		if g, want := get(b, at), gotOf(b, at); g != want {
			t.Fatalf("Get at %d: %v, not %v", at, g, want)
		}
	}
}

// R3
func TestMemory(t *testing.T) {
	whole := []byte("abcdefghijklmnopqrstuvwxyz")
	kept := slices.Clone(whole)
	for length := range 10 {
		for _, n := range []uint64{5, 50, 500, 1 << 20, 1 << 40} {
			first := chead.Put(whole[:length], 2, n)
			want := slices.Clone(first)
			second := chead.Put(whole[:length], 3, n+1)
			if !bytes.Equal(whole, kept) {
				t.Fatalf("Put changed what it was given, or its spare room: %q", whole)
			}
			if !bytes.Equal(first, want) {
				t.Fatalf("two answers of Put share memory: %x, %x", first, second)
			}
			third := chead.Put(first, 4, 7)
			clear(first[len(first):cap(first)])
			if string(third) != string(want)+"\x87" {
				t.Fatalf("Put was into spare room: %x", third)
			}
			get(first, length)
			if !bytes.Equal(first, want) {
				t.Fatalf("Get changed what it was given: %x", first)
			}
		}
	}
	if a, b := chead.Put(nil, 2, 500), chead.Put([]byte{}, 2, 500); !bytes.Equal(a, b) {
		t.Errorf("nil and an empty list are not one: %x, %x", a, b)
	}
}

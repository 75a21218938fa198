package mhead_test

import (
	"bytes"
	"math"
	"math/rand"
	"slices"
	"testing"

	"erratum/api"
	"erratum/mhead"
)

// P11.1
func TestKinds(t *testing.T) {
	for i, kind := range []int{mhead.Nil, mhead.False, mhead.True, mhead.Uint, mhead.Int, mhead.Float, mhead.Text, mhead.Bytes, mhead.Array, mhead.Map, mhead.Ext, mhead.Half} {
		if kind != i+1 {
			t.Errorf("the kind in place %d is %d", i+1, kind)
		}
	}
}

// below is a number below 0 as 64 bits.
func below(n int64) uint64 { return uint64(n) }

// P11.2
func TestPutNamed(t *testing.T) {
	for _, x := range []struct {
		kind int
		n    uint64
		want string
	}{
		{mhead.Nil, 0, "\xc0"}, {mhead.False, 0, "\xc2"}, {mhead.True, 0, "\xc3"},
		{mhead.Nil, 7, "\xc0"}, {mhead.False, math.MaxUint64, "\xc2"}, {mhead.True, 1 << 40, "\xc3"},
		{mhead.Uint, 0, "\x00"}, {mhead.Uint, 127, "\x7f"}, {mhead.Uint, 128, "\xcc\x80"}, {mhead.Uint, 255, "\xcc\xff"},
		{mhead.Uint, 256, "\xcd\x01\x00"}, {mhead.Uint, 65535, "\xcd\xff\xff"}, {mhead.Uint, 65536, "\xce\x00\x01\x00\x00"},
		{mhead.Uint, math.MaxUint32, "\xce\xff\xff\xff\xff"}, {mhead.Uint, 1 << 32, "\xcf\x00\x00\x00\x01\x00\x00\x00\x00"},
		{mhead.Uint, 1 << 63, "\xcf\x80\x00\x00\x00\x00\x00\x00\x00"}, {mhead.Uint, math.MaxUint64, "\xcf\xff\xff\xff\xff\xff\xff\xff\xff"},
		{mhead.Uint, 0x0102030405060708, "\xcf\x01\x02\x03\x04\x05\x06\x07\x08"},
		{mhead.Int, 0, "\x00"}, {mhead.Int, 127, "\x7f"}, {mhead.Int, 128, "\xcc\x80"}, {mhead.Int, math.MaxInt64, "\xcf\x7f\xff\xff\xff\xff\xff\xff\xff"},
		{mhead.Int, below(-1), "\xff"}, {mhead.Int, below(-32), "\xe0"}, {mhead.Int, below(-33), "\xd0\xdf"}, {mhead.Int, below(-128), "\xd0\x80"},
		{mhead.Int, below(-129), "\xd1\xff\x7f"}, {mhead.Int, below(-255), "\xd1\xff\x01"}, {mhead.Int, below(-256), "\xd1\xff\x00"}, {mhead.Int, below(-32768), "\xd1\x80\x00"},
		{mhead.Int, below(-32769), "\xd2\xff\xff\x7f\xff"}, {mhead.Int, below(-1 << 31), "\xd2\x80\x00\x00\x00"},
		{mhead.Int, below(-1<<31 - 1), "\xd3\xff\xff\xff\xff\x7f\xff\xff\xff"}, {mhead.Int, below(math.MinInt64), "\xd3\x80\x00\x00\x00\x00\x00\x00\x00"},
		{mhead.Float, 0x3ff8000000000000, "\xcb\x3f\xf8\x00\x00\x00\x00\x00\x00"}, {mhead.Float, 0, "\xcb\x00\x00\x00\x00\x00\x00\x00\x00"},
		{mhead.Half, 0x3fc00000, "\xca\x3f\xc0\x00\x00"}, {mhead.Half, 0, "\xca\x00\x00\x00\x00"}, {mhead.Half, 0x0102030405060708, "\xca\x05\x06\x07\x08"},
		{mhead.Text, 0, "\xa0"}, {mhead.Text, 31, "\xbf"}, {mhead.Text, 32, "\xd9\x20"}, {mhead.Text, 40, "\xd9\x28"}, {mhead.Text, 255, "\xd9\xff"},
		{mhead.Text, 256, "\xda\x01\x00"}, {mhead.Text, 65535, "\xda\xff\xff"}, {mhead.Text, 65536, "\xdb\x00\x01\x00\x00"}, {mhead.Text, 1<<32 + 3, "\xa3"},
		{mhead.Bytes, 0, "\xc4\x00"}, {mhead.Bytes, 255, "\xc4\xff"}, {mhead.Bytes, 256, "\xc5\x01\x00"}, {mhead.Bytes, 65535, "\xc5\xff\xff"},
		{mhead.Bytes, 65536, "\xc6\x00\x01\x00\x00"}, {mhead.Bytes, math.MaxUint32, "\xc6\xff\xff\xff\xff"}, {mhead.Bytes, 1 << 32, "\xc4\x00"},
		{mhead.Array, 0, "\x90"}, {mhead.Array, 15, "\x9f"}, {mhead.Array, 16, "\xdc\x00\x10"}, {mhead.Array, 255, "\xdc\x00\xff"}, {mhead.Array, 256, "\xdc\x01\x00"},
		{mhead.Array, 65535, "\xdc\xff\xff"}, {mhead.Array, 65536, "\xdd\x00\x01\x00\x00"}, {mhead.Array, 1<<40 + 16, "\xdc\x00\x10"},
		{mhead.Map, 0, "\x80"}, {mhead.Map, 15, "\x8f"}, {mhead.Map, 16, "\xde\x00\x10"}, {mhead.Map, 256, "\xde\x01\x00"}, {mhead.Map, 65535, "\xde\xff\xff"},
		{mhead.Map, 65536, "\xdf\x00\x01\x00\x00"}, {mhead.Map, math.MaxUint32, "\xdf\xff\xff\xff\xff"}, {mhead.Map, math.MaxUint64, "\xdf\xff\xff\xff\xff"},
	} {
		if b := mhead.Put(nil, x.kind, x.n); string(b) != x.want {
			t.Errorf("Put(nil, %d, %#x): %x", x.kind, x.n, b)
		}
	}
}

// P11.2
func TestPutOtherKinds(t *testing.T) {
	for _, kind := range []int{0, mhead.Ext, 13, 14, -1, -8, 256 + mhead.Nil, 1<<32 + mhead.Uint, 0xc0, math.MinInt, math.MaxInt} {
		for _, n := range numbers() {
			for _, ahead := range []string{"", "a", "\xc0\x00abcdefghijkl"} {
				if b := mhead.Put([]byte(ahead), kind, n); string(b) != ahead {
					t.Fatalf("Put(%q, %d, %#x): %x", ahead, kind, n, b)
				}
			}
		}
	}
	if b := mhead.Put(nil, 0, 1); len(b) != 0 {
		t.Errorf("Put(nil, 0, 1): %x", b)
	}
}

// P11.2: of all heads of the table that are of it, the one with the fewest bytes.
func TestPutFewest(t *testing.T) {
	for _, kind := range putKinds() {
		for _, n := range numbers() {
			want, many := putOf(kind, n)
			if many != 1 {
				t.Fatalf("%d heads of %d, %#x are the shortest", many, kind, n)
			}
			if b := mhead.Put(nil, kind, n); !bytes.Equal(b, want) {
				t.Errorf("Put(nil, %d, %#x): %x, not %x", kind, n, b, want)
			}
		}
	}
}

// P11.2, P11.3: all numbers of 17 bits, and those below 0.
func TestPutEverySmall(t *testing.T) {
	lengths := func(kind int, n uint64, edges ...uint64) int {
		for i, edge := range edges {
			if n <= edge {
				return []int{1, 2, 3, 5}[i]
			}
		}
		t.Fatalf("no length of %d, %d", kind, n)
		return 0
	}
	const most = 1<<17 - 1
	for n := uint64(0); n <= most; n++ {
		for _, x := range []struct {
			kind, as int
			n        uint64
			length   int
		}{
			{mhead.Uint, mhead.Uint, n, lengths(mhead.Uint, n, 127, 255, 65535, most)},
			{mhead.Int, mhead.Uint, n, lengths(mhead.Int, n, 127, 255, 65535, most)},
			{mhead.Int, mhead.Int, ^n, lengths(mhead.Int, n, 31, 127, 32767, most)},
			{mhead.Text, mhead.Text, n, lengths(mhead.Text, n, 31, 255, 65535, most)},
			{mhead.Bytes, mhead.Bytes, n, max(2, lengths(mhead.Bytes, n, 0, 255, 65535, most))},
			{mhead.Array, mhead.Array, n, lengths(mhead.Array, n, 15, 15, 65535, most)},
			{mhead.Map, mhead.Map, n, lengths(mhead.Map, n, 15, 15, 65535, most)},
		} {
			b := mhead.Put(nil, x.kind, x.n)
			if g := get(b, 0); len(b) != x.length || g != (got{x.as, x.n, len(b), api.OK}) {
				t.Fatalf("Put(nil, %d, %#x): %x, got as %v", x.kind, x.n, b, g)
			}
		}
	}
}

// P11.3
func TestThereAndBack(t *testing.T) {
	for _, kind := range putKinds() {
		for _, n := range numbers() {
			for _, ahead := range []string{"", "\x00", "\xc1", "\xcf\x01", "abcdefghijklmnopq"} {
				b := mhead.Put([]byte(ahead), kind, n)
				if !bytes.HasPrefix(b, []byte(ahead)) {
					t.Fatalf("Put(%q, %d, %#x): %x", ahead, kind, n, b)
				}
				as, value := put(kind, n)
				whole := got{as, value, len(b), api.OK}
				if g := get(b, len(ahead)); g != whole {
					t.Fatalf("Get(%x, %d): %v, not %v", b, len(ahead), g, whole)
				}
				if g := get(append(b, 0xc1, 0xff, 0), len(ahead)); g != whole {
					t.Fatalf("Get of %x and bytes behind it, %d: %v", b, len(ahead), g)
				}
				for end := len(ahead); end < len(b); end++ {
					if g := get(b[:end], len(ahead)); g != (got{e: api.Malformed}) {
						t.Fatalf("Get(%x, %d): %v", b[:end], len(ahead), g)
					}
				}
			}
		}
	}
}

// P11.1: more bytes than a number needs.
func TestGetLong(t *testing.T) {
	for _, kind := range putKinds() {
		for _, n := range numbers() {
			for _, b := range headsOf(kind, n) {
				if g := get(b, 0); g != (got{kind, n, len(b), api.OK}) {
					t.Fatalf("Get(%x, 0): %v", b, g)
				}
			}
		}
	}
}

// P11.1
func TestGetNamed(t *testing.T) {
	for _, x := range []struct {
		b    string
		at   int
		want got
	}{
		{"\x00", 0, got{mhead.Uint, 0, 1, api.OK}},
		{"\x7f", 0, got{mhead.Uint, 127, 1, api.OK}},
		{"\x80", 0, got{mhead.Map, 0, 1, api.OK}},
		{"\x8f", 0, got{mhead.Map, 15, 1, api.OK}},
		{"\x90", 0, got{mhead.Array, 0, 1, api.OK}},
		{"\x9f", 0, got{mhead.Array, 15, 1, api.OK}},
		{"\xa0", 0, got{mhead.Text, 0, 1, api.OK}},
		{"\xbf", 0, got{mhead.Text, 31, 1, api.OK}},
		{"\xc0", 0, got{mhead.Nil, 0, 1, api.OK}},
		{"\xc1", 0, got{e: api.Unsupported}},
		{"\xc1\x00\x00", 0, got{e: api.Unsupported}},
		{"\xc2", 0, got{mhead.False, 0, 1, api.OK}},
		{"\xc3\x07", 0, got{mhead.True, 0, 1, api.OK}},
		{"\xc4\x07", 0, got{mhead.Bytes, 7, 2, api.OK}},
		{"\xc5\x01\x02", 0, got{mhead.Bytes, 0x0102, 3, api.OK}},
		{"\xc6\x01\x02\x03\x04", 0, got{mhead.Bytes, 0x01020304, 5, api.OK}},
		{"\xc7\x03\x01", 0, got{mhead.Ext, 3, 3, api.OK}},
		{"\xc7\x00\xff", 0, got{mhead.Ext, 0, 3, api.OK}},
		{"\xc8\x01\x00\x01", 0, got{mhead.Ext, 256, 4, api.OK}},
		{"\xc9\xff\xff\xff\xff\x01", 0, got{mhead.Ext, math.MaxUint32, 6, api.OK}},
		{"\xca\xff\xc0\x00\x00", 0, got{mhead.Half, 0xffc00000, 5, api.OK}},
		{"\xcb\xff\xf0\x00\x00\x00\x00\x00\x00", 0, got{mhead.Float, 0xfff0000000000000, 9, api.OK}},
		{"\xcc\x05", 0, got{mhead.Uint, 5, 2, api.OK}},
		{"\xcc\xff", 0, got{mhead.Uint, 255, 2, api.OK}},
		{"\xcf\x80\x00\x00\x00\x00\x00\x00\x00", 0, got{mhead.Uint, 1 << 63, 9, api.OK}},
		{"\xd0\x05", 0, got{mhead.Int, 5, 2, api.OK}},
		{"\xd0\x7f", 0, got{mhead.Int, 127, 2, api.OK}},
		{"\xd0\x80", 0, got{mhead.Int, below(-128), 2, api.OK}},
		{"\xd1\x00\xff", 0, got{mhead.Int, 255, 3, api.OK}},
		{"\xd1\xff\xfe", 0, got{mhead.Int, below(-2), 3, api.OK}},
		{"\xd2\x7f\xff\xff\xff", 0, got{mhead.Int, math.MaxInt32, 5, api.OK}},
		{"\xd2\x80\x00\x00\x00", 0, got{mhead.Int, below(math.MinInt32), 5, api.OK}},
		{"\xd3\x00\x00\x00\x00\x00\x00\x00\x05", 0, got{mhead.Int, 5, 9, api.OK}},
		{"\xd3\x80\x00\x00\x00\x00\x00\x00\x00", 0, got{mhead.Int, 1 << 63, 9, api.OK}},
		{"\xd4\x01", 0, got{mhead.Ext, 1, 2, api.OK}},
		{"\xd5\x01\x02", 0, got{mhead.Ext, 2, 2, api.OK}},
		{"\xd6\x80", 0, got{mhead.Ext, 4, 2, api.OK}},
		{"\xd7\xff", 0, got{mhead.Ext, 8, 2, api.OK}},
		{"\xd8\x01", 0, got{mhead.Ext, 16, 2, api.OK}},
		{"\xd9\x28", 0, got{mhead.Text, 40, 2, api.OK}},
		{"\xdb\x00\x00\x00\x01", 0, got{mhead.Text, 1, 5, api.OK}},
		{"\xdd\x00\x00\x00\x00", 0, got{mhead.Array, 0, 5, api.OK}},
		{"\xde\x01\x00", 0, got{mhead.Map, 256, 3, api.OK}},
		{"\xe0", 0, got{mhead.Int, below(-32), 1, api.OK}},
		{"\xff", 0, got{mhead.Int, below(-1), 1, api.OK}},
		{"\xcd\x01\xf4", 1, got{mhead.Uint, 1, 2, api.OK}},
		{"\xcd\x01\xf4", 2, got{mhead.Int, below(-12), 3, api.OK}},
		{"\xcd\x01\xf4", 3, got{e: api.Malformed}},
		{"\xcd\x01\xf4", 4, got{e: api.Arg}},
		{"\xcd\x01\xf4", -1, got{e: api.Arg}},
		{"\xcd\x01", 0, got{e: api.Malformed}},
		{"\xc7\x03", 0, got{e: api.Malformed}},
		{"\xc7", 0, got{e: api.Malformed}},
		{"\xc8\x00\x00", 0, got{e: api.Malformed}},
		{"\xc9\x00\x00\x00\x02", 0, got{e: api.Malformed}},
		{"\xd4", 0, got{e: api.Malformed}},
		{"\xd8", 0, got{e: api.Malformed}},
		{"\xca\x00\x00\x00", 0, got{e: api.Malformed}},
		{"\xcb\x00\x00\x00\x00\x00\x00\x00", 0, got{e: api.Malformed}},
		{"", 0, got{e: api.Malformed}},
		{"", 1, got{e: api.Arg}},
		{"", -1, got{e: api.Arg}},
		{"\xc1", 1, got{e: api.Malformed}},
		{"\xc1", 2, got{e: api.Arg}},
	} {
		if g := get([]byte(x.b), x.at); g != x.want {
			t.Errorf("Get(%x, %d): %v", x.b, x.at, g)
		}
	}
}

// P11.1
func TestGetEveryFirstByte(t *testing.T) {
	for first := range 256 {
		for many := range 12 {
			for _, fill := range []byte{0, 1, 0x7f, 0x80, 0xc1, 0xff} {
				b := append([]byte{7, byte(first)}, bytes.Repeat([]byte{fill}, many)...)
				for i := range many {
					b[2+i] += byte(i)
				}
				for at := range len(b) + 1 {
					if g, want := get(b, at), gotOf(b, at); g != want {
						t.Fatalf("Get(%x, %d): %v, not %v", b, at, g, want)
					}
				}
			}
		}
	}
}

// P11.1: all pairs of bytes, alone and with bytes behind them.
func TestGetPairs(t *testing.T) {
	for n := range 1 << 16 {
		for _, behind := range []string{"", "\x00", "\x80\x01", "\xff\x00\xc1\x7f\x80\x00\xfe", "\x00\x00\x00\x00\x00\x00\x00\x00\x00"} {
			b := append([]byte{byte(n >> 8), byte(n)}, behind...)
			if g, want := get(b, 0), gotOf(b, 0); g != want {
				t.Fatalf("Get(%x, 0): %v, not %v", b, g, want)
			}
		}
	}
}

// P11.1, and R1 of the page of rules
func TestGetPlacesOutside(t *testing.T) {
	for _, b := range [][]byte{nil, {}, {0}, {0xc1}, {0xcc}, {0xcf, 0, 0}, {0xd4}, make([]byte, 40)} {
		for _, at := range []int{-1, -2, -len(b) - 1, len(b) + 1, len(b) + 2, 1 << 32, -1 << 32, math.MinInt, math.MinInt + 1, math.MaxInt, math.MaxInt - 1, math.MaxInt - 9} {
			if g := get(b, at); g != (got{e: api.Arg}) {
				t.Errorf("Get(%x, %d): %v", b, at, g)
			}
		}
	}
	for _, room := range [][]byte{
		append(make([]byte, 0, 16), 0xcf, 1, 2),
		append(make([]byte, 0, 16), 0, 0, 0xd4),
		append(make([]byte, 0, 16), 0, 0xc7, 1),
	} {
		for at := range 3 {
			if g, want := get(room, at), gotOf(slices.Clone(room), at); g != want {
				t.Errorf("Get(%x, %d) has bytes of spare room: %v", room, at, g)
			}
		}
		if g := get(room, 4); g != (got{e: api.Arg}) {
			t.Errorf("Get is at a place in spare room: %v", g)
		}
	}
}

// P11.1, P11.3: heads one behind the other are got as they were put.
func TestManyHeads(t *testing.T) {
	r := rand.New(rand.NewSource(11))
	kinds := putKinds()
	var l []got
	var b []byte
	for range 3000 {
		kind, n := kinds[r.Intn(len(kinds))], r.Uint64()>>r.Intn(64)
		if kind == mhead.Int && r.Intn(2) == 0 {
			n = ^n
		}
		b = mhead.Put(b, kind, n)
		as, value := put(kind, n)
		l = append(l, got{as, value, len(b), api.OK})
	}
	at := 0
	for i, want := range l {
		g := get(b, at)
		if g != want {
			t.Fatalf("head %d at %d: %v, not %v", i, at, g, want)
		}
		at = g.next
	}
	if at != len(b) {
		t.Errorf("%d bytes, %d were got", len(b), at)
	}
	for at := range len(b) + 1 {
		if g, want := get(b, at), gotOf(b, at); g != want {
			t.Fatalf("Get at %d: %v, not %v", at, g, want)
		}
	}
}

// R3
func TestMemory(t *testing.T) {
	whole := []byte("abcdefghijklmnopqrstuvwxyz")
	kept := slices.Clone(whole)
	for length := range 10 {
		for kind := -1; kind <= 14; kind++ {
			for _, n := range []uint64{5, 50, 500, 1 << 20, 1 << 40, below(-5), below(-50), below(-500), below(-1 << 40)} {
				memoryOf(t, whole[:length], kind, n)
				if !bytes.Equal(whole, kept) {
					t.Fatalf("Put of %d, %#x changed what it was given, or its spare room: %q", kind, n, whole)
				}
			}
		}
	}
	if a, b := mhead.Put(nil, mhead.Text, 500), mhead.Put([]byte{}, mhead.Text, 500); !bytes.Equal(a, b) {
		t.Errorf("nil and an empty list are not one: %x, %x", a, b)
	}
}

// memoryOf puts two heads behind the same bytes, and one behind the first of them.
func memoryOf(t *testing.T, b []byte, kind int, n uint64) {
	first := mhead.Put(b, kind, n)
	want := slices.Clone(first)
	mhead.Put(b, mhead.Array, n+1)
	if !bytes.Equal(first, want) {
		t.Fatalf("two answers of Put of %d, %#x share memory: %x, %x", kind, n, first, want)
	}
	third := mhead.Put(first, mhead.Uint, 7)
	clear(first[len(first):cap(first)])
	if string(third) != string(want)+"\x07" {
		t.Fatalf("Put of %d, %#x was into spare room: %x", kind, n, third)
	}
	get(first, len(b))
	if !bytes.Equal(first, want) {
		t.Fatalf("Get changed what it was given: %x", first)
	}
}

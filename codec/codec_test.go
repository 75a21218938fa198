package codec_test

import (
	"math/rand"
	"strings"
	"testing"

	"erratum/api"
	"erratum/cbor"
	"erratum/codec"
	"erratum/json"
	"erratum/pack"
)

// refuseDecode holds Decode of bytes against an error.
func refuseDecode(t *testing.T, format int, b string, want api.Errno) {
	t.Helper()
	if v, e := codec.Decode(format, b); !exact(v, api.Tree{}) || e != want {
		t.Errorf("Decode(%d, %s): %v, %d, not %d", format, short(b), v, e, want)
	}
	if codec.Canonical(format, b) {
		t.Errorf("Canonical(%d, %s)", format, short(b))
	}
}

// refuseEncode holds Encode and Can of a value against an error.
func refuseEncode(t *testing.T, format int, v api.Tree, want api.Errno) {
	t.Helper()
	if b, e := codec.Encode(format, v); b != "" || e != want {
		t.Errorf("Encode(%d, %v): %s, %d, not %d", format, v, short(b), e, want)
	}
	if can := codec.Can(format, v); can != (want == api.Limit) {
		t.Errorf("Can(%d, %v): %t", format, v, can)
	}
}

// P13.1: each format by its own bytes.
func TestFormats(t *testing.T) {
	for _, w := range table() {
		for _, format := range formats {
			want, ok := w.in(format)
			if !ok {
				refuseEncode(t, format, w.v, api.Unrep)
				continue
			}
			if b, e := codec.Encode(format, w.v); b != want || e != api.OK {
				t.Errorf("Encode(%d, %v): %s, %d, not %s", format, w.v, short(b), e, short(want))
			}
			if v, e := codec.Decode(format, want); !exact(v, w.v) || e != api.OK {
				t.Errorf("Decode(%d, %s): %v, %d", format, short(want), v, e)
			}
			if !codec.Can(format, w.v) || !codec.Canonical(format, want) {
				t.Errorf("%s in %d: Can %t, Canonical %t", short(want), format, codec.Can(format, w.v), codec.Canonical(format, want))
			}
		}
	}
}

// P13.1: of numbers that are no format's, whatever else is wrong.
func TestNoFormat(t *testing.T) {
	values := wrong()
	for _, w := range table() {
		values = append(values, w.v)
	}
	for _, format := range others {
		for _, v := range values {
			refuseEncode(t, format, v, api.Arg)
		}
		for _, b := range []string{"", "1", "null", "x", "\xf6", "\xc0", "\xff", "\xc1", strings.Repeat(" ", api.MaxFile+1)} {
			refuseDecode(t, format, b, api.Arg)
			for _, to := range append(formats, others...) {
				transcode(t, format, to, b, "", api.Arg)
			}
		}
	}
}

// P13.1: what is wrong in bytes is told by their format.
func TestDecodeWrong(t *testing.T) {
	long := strings.Repeat("x", api.MaxFile+1)
	for format, errors := range map[int]map[api.Errno][]string{
		api.JSON: {
			api.Malformed: {"", "x", "1 1", "[1,]", `{"a":1,"a":2}`, `"`, "01", "\xf6", "nul"},
			api.Limit:     {strings.Repeat("[", 65), "1e1201", `"` + strings.Repeat("x", 2001) + `"`, long},
		},
		api.CBOR: {
			api.Malformed:   {"", "\x18", "\x00\x00", "\xff", "\x61\xff", "\xa2\x61a\x01\x61a\x02", "\x1c"},
			api.Unsupported: {"\xf7", "\xf9\x7c\x00", "\xa1\x01\x02", "\xc0\x01"},
			api.Limit:       {strings.Repeat("\x81", 65), "\x79\x07\xd1", "\x99\x01\x2d", "\xc4\x82\x19\x04\xb1\x01", long},
		},
		api.Pack: {
			api.Malformed:   {"", "\xcc", "\x00\x00", "\xa1\xff", "\x82\xa1a\x01\xa1a\x02"},
			api.Unsupported: {"\xc1", "\xd4\x01\x00", "\xca\x7f\x80\x00\x00", "\x81\x01\x02"},
			api.Limit:       {strings.Repeat("\x91", 65), "\xda\x07\xd1", "\xdc\x01\x2d", long},
		},
	} {
		for e, l := range errors {
			for _, b := range l {
				refuseDecode(t, format, b, e)
				for _, to := range append(formats, others...) {
					transcode(t, format, to, b, "", e) // what is wrong with the bytes is told ahead of a format that is none
				}
			}
		}
	}
}

// P13.1
func TestEncodeWrong(t *testing.T) {
	for _, v := range wrong() {
		for _, format := range formats {
			refuseEncode(t, format, v, api.Arg)
		}
	}
	big := many(17, text(strings.Repeat("x", 2000)))
	bytes, tenth := list(append(big, blob(""))...), list(append(big, number("0.1"))...)
	escaped := list(many(3, text(strings.Repeat("\x01", 2000)))...) // 6 bytes each in JSON alone
	for _, x := range []struct {
		format int
		v      api.Tree
		e      api.Errno
	}{
		{api.JSON, list(big...), api.Limit}, {api.CBOR, list(big...), api.Limit}, {api.Pack, list(big...), api.Limit},
		{api.JSON, bytes, api.Unrep}, {api.CBOR, bytes, api.Limit}, {api.Pack, bytes, api.Limit},
		{api.JSON, tenth, api.Limit}, {api.CBOR, tenth, api.Limit}, {api.Pack, tenth, api.Unrep},
		{api.JSON, escaped, api.Limit},
	} {
		refuseEncode(t, x.format, x.v, x.e)
	}
	for _, format := range []int{api.CBOR, api.Pack} {
		if b, e := codec.Encode(format, escaped); len(b) != 6010 || e != api.OK || !codec.Can(format, escaped) {
			t.Errorf("Encode(%d): %s, %d", format, short(b), e)
		}
	}
}

// filler is texts, the last of which has so many bytes.
func filler(last int) api.Tree {
	return list(append(many(16, text(strings.Repeat("x", 2000))), text(strings.Repeat("y", last)))...)
}

// P13.1: the most bytes there may be, and one more.
func TestEncodeMost(t *testing.T) {
	for _, format := range formats {
		some, e := codec.Encode(format, filler(500))
		if e != api.OK {
			t.Fatal(format, e)
		}
		full := 500 + api.MaxFile - len(some)
		for _, last := range []int{full - 1, full} {
			b, e := codec.Encode(format, filler(last))
			if len(b) != api.MaxFile-full+last || e != api.OK || !codec.Canonical(format, b) || !codec.Can(format, filler(last)) {
				t.Errorf("%d: %s, %d", format, short(b), e)
			}
		}
		refuseEncode(t, format, filler(full+1), api.Limit)
	}
}

// P13.1: each call is the format's own, whatever the bytes are.
func TestDecodeAny(t *testing.T) {
	r := rand.New(rand.NewSource(131))
	own := map[int]func(string) (api.Tree, api.Errno){
		api.JSON: json.Decode,
		api.CBOR: func(b string) (api.Tree, api.Errno) { return cbor.Decode([]byte(b)) },
		api.Pack: func(b string) (api.Tree, api.Errno) { return pack.Decode([]byte(b)) },
	}
	var samples []string
	for _, w := range table() {
		for _, format := range formats {
			b, _ := w.in(format)
			samples = append(samples, b)
		}
	}
	counts := map[api.Errno]int{}
	for range 20000 {
		b := samples[r.Intn(len(samples))]
		at := r.Intn(len(b) + 1)
		b = b[:at] + samples[r.Intn(len(samples))] + b[at:]
		for _, format := range formats {
			want, wantE := own[format](b)
			if v, e := codec.Decode(format, b); !exact(v, want) || e != wantE {
				t.Fatalf("Decode(%d, %q): %v, %d, not %v, %d", format, b, v, e, want, wantE)
			}
			counts[wantE]++
		}
	}
	if counts[api.OK] < 1000 || counts[api.Malformed] < 1000 || counts[api.Unsupported] < 1000 {
		t.Error(counts)
	}
}

// R3: what is answered is new each time.
func TestDecodeMemory(t *testing.T) {
	for _, w := range table() {
		for _, format := range formats {
			b, ok := w.in(format)
			if !ok {
				continue
			}
			first, _ := codec.Decode(format, b)
			second, _ := codec.Decode(format, b)
			spoil(second)
			if again, e := codec.Encode(format, first); !exact(first, w.v) || again != b || e != api.OK {
				t.Errorf("Decode(%d, %s) is not what it was: %v", format, short(b), first)
			}
		}
	}
}

// spoil writes to all lists of a value, spare room, too.
func spoil(t api.Tree) {
	for _, v := range t.V {
		spoil(v)
	}
	clear(t.N.M[:cap(t.N.M)])
	clear(t.K[:cap(t.K)])
	clear(t.V[:cap(t.V)])
}

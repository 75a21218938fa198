package codec_test

import (
	"math/rand"
	"strings"
	"testing"

	"erratum/api"
	"erratum/codec"
)

// transcode holds Transcode against what it must answer.
func transcode(t *testing.T, from, to int, b, want string, wantE api.Errno) {
	t.Helper()
	if got, e := codec.Transcode(from, to, b); got != want || e != wantE {
		t.Errorf("Transcode(%d, %d, %s): %s, %d, not %s, %d", from, to, short(b), short(got), e, short(want), wantE)
	}
}

// P13.1, P13.2: from each format to each.
func TestTranscode(t *testing.T) {
	for _, w := range table() {
		for _, from := range formats {
			b, ok := w.in(from)
			if !ok {
				continue
			}
			for _, to := range formats {
				want, e := "", api.Unrep
				if other, ok := w.in(to); ok {
					want, e = other, api.OK
				}
				transcode(t, from, to, b, want, e)
			}
			for _, to := range others {
				transcode(t, from, to, b, "", api.Arg)
			}
		}
	}
	transcode(t, api.JSON, api.CBOR, "1.5", "\xf9\x3e\x00", api.OK)
	transcode(t, api.JSON, api.CBOR, `{"b":1,"a":[true]}`, "\xa2\x61a\x81\xf5\x61b\x01", api.OK)
}

// loose is bytes that are not canonical, and what they are.
type loose struct {
	format int
	b      string
	v      written
}

// loosely are other ways to write values.
func loosely() []loose {
	pair := written{named("aa", "b"), `{"aa":0,"b":1}`, "a2 61 62 01 62 61 61 00", "82 a2 61 61 00 a1 62 01"}
	half := written{number("1.5"), "1.5", "f9 3e 00", "ca 3f c0 00 00"}
	unit := written{number("1"), "1", "01", "01"}
	word := written{text("a"), `"a"`, "61 61", "a1 61"}
	raw := written{blob("a"), "", "41 61", "c4 01 61"}
	nought := written{number("0"), "0", "00", "00"}
	ones := written{list(number("1")), "[1]", "81 01", "91 01"}
	return []loose{
		{api.JSON, " 1", unit}, {api.JSON, "1\n", unit}, {api.JSON, "1.0", unit}, {api.JSON, "10e-1", unit}, {api.JSON, "15E-1", half}, {api.JSON, "1.50", half}, {api.JSON, "-0", nought}, {api.JSON, "0e5", nought}, {api.JSON, `"\u0061"`, word}, {api.JSON, "[ 1]", ones},
		{api.JSON, `{"b":1,"aa":0}`, pair}, {api.JSON, `{"aa":0, "b":1}`, pair}, {api.JSON, `{"aa":0,"b":1e0}`, pair},
		{api.CBOR, "\x18\x01", unit}, {api.CBOR, "\xf9\x3c\x00", unit}, {api.CBOR, "\xc2\x41\x01", unit}, {api.CBOR, "\xfa\x3f\xc0\x00\x00", half}, {api.CBOR, "\xc4\x82\x20\x0f", half}, {api.CBOR, "\xf9\x80\x00", nought}, {api.CBOR, "\x78\x01a", word}, {api.CBOR, "\x7f\x61a\xff", word}, {api.CBOR, "\x5f\x41a\xff", raw}, {api.CBOR, "\x9f\x01\xff", ones},
		{api.CBOR, "\xa2\x62aa\x00\x61b\x01", pair}, {api.CBOR, "\xbf\x61b\x01\x62aa\x00\xff", pair}, {api.CBOR, "\xb8\x02\x61b\x01\x62aa\x00", pair},
		{api.Pack, "\xcc\x01", unit}, {api.Pack, "\xd0\x01", unit}, {api.Pack, "\xca\x3f\x80\x00\x00", unit}, {api.Pack, "\xcb\x3f\xf8\x00\x00\x00\x00\x00\x00", half}, {api.Pack, "\xca\x80\x00\x00\x00", nought}, {api.Pack, "\xd9\x01a", word}, {api.Pack, "\xc5\x00\x01a", raw}, {api.Pack, "\xdc\x00\x01\x01", ones},
		{api.Pack, "\x82\xa1b\x01\xa2aa\x00", pair}, {api.Pack, "\xde\x00\x02\xa2aa\x00\xa1b\x01", pair},
	}
}

// P13.1: bytes that are not canonical are transcoded as what they are.
func TestTranscodeLoose(t *testing.T) {
	for _, x := range loosely() {
		if codec.Canonical(x.format, x.b) {
			t.Errorf("Canonical(%d, %q)", x.format, x.b)
		}
		if v, e := codec.Decode(x.format, x.b); !exact(v, x.v.v) || e != api.OK {
			t.Errorf("Decode(%d, %q): %v, %d", x.format, x.b, v, e)
		}
		for _, to := range formats {
			if want, ok := x.v.in(to); ok {
				transcode(t, x.format, to, x.b, want, api.OK)
			} else {
				transcode(t, x.format, to, x.b, "", api.Unrep)
			}
		}
	}
}

// P13.1, P13.2: bytes that may be, of a value that is too long in another format.
func TestTranscodeTooLong(t *testing.T) {
	full := strings.Repeat(",\""+strings.Repeat("x", 2000)+"\"", 15)
	escaped := "\x96" + strings.Repeat("\xda\x07\xd0"+strings.Repeat("\x01", 2000), 6)
	floats := "[[" + strings.Repeat("1e22,", 249) + "1e22],[" + strings.Repeat("1e22,", 249) + "1e22]" + full + "]"
	tens := "[" + strings.Repeat("1E20,", 99) + "1E20" + full + ",[" + strings.Repeat("1e20,", 149) + "1e20]]"
	for _, x := range []struct {
		from, to int
		b        string
	}{
		{api.Pack, api.JSON, escaped}, {api.JSON, api.Pack, floats}, {api.JSON, api.CBOR, floats}, {api.JSON, api.JSON, tens},
	} {
		v, e := codec.Decode(x.from, x.b)
		if e != api.OK {
			t.Fatalf("Decode(%d, %s): %d", x.from, short(x.b), e)
		}
		transcode(t, x.from, x.to, x.b, "", api.Limit)
		if !codec.Can(x.to, v) || x.from == x.to && codec.Canonical(x.from, x.b) {
			t.Errorf("%d, %d, %s", x.from, x.to, short(x.b))
		}
	}
	withBytes := "\x97" + strings.Repeat("\xda\x07\xd0"+strings.Repeat("\x01", 2000), 6) + "\xc4\x00"
	transcode(t, api.Pack, api.JSON, withBytes, "", api.Unrep)
}

// back holds the bytes of a value in one format against those in another one, and answers the error of that.
func back(t *testing.T, from, to int, v api.Tree) api.Errno {
	t.Helper()
	b, e := codec.Encode(from, v)
	if e != api.OK {
		return e
	}
	other, otherE := codec.Encode(to, v)
	transcode(t, from, to, b, other, otherE)
	if otherE == api.OK {
		transcode(t, to, from, other, b, api.OK)
		if again, e := codec.Decode(to, other); !exact(again, v) || e != api.OK {
			t.Errorf("%s as %d: %v, %d", short(b), to, again, e)
		}
	} else if otherE == api.Unrep && codec.Can(to, v) || otherE == api.Limit && !codec.Can(to, v) {
		t.Errorf("%s as %d: %d", short(b), to, otherE)
	}
	if !codec.Canonical(from, b) {
		t.Errorf("Canonical(%d, %s)", from, short(b))
	}
	return otherE
}

// P13.2
func TestThereAndBack(t *testing.T) {
	r := rand.New(rand.NewSource(132))
	counts := map[api.Errno]int{}
	for i := range 3000 {
		v := mixedValue(r, i%6, 8+i%3)
		for _, from := range formats {
			for _, to := range formats {
				counts[back(t, from, to, v)]++
			}
		}
	}
	if counts[api.OK] < 10000 || counts[api.Unrep] < 1000 {
		t.Error(counts)
	}
}

// P13.2: values with all the room there may be.
func TestThereAndBackLimits(t *testing.T) {
	counts := map[api.Errno]int{}
	for _, v := range []api.Tree{
		nest(63, null()), nest(63, list()), nest(63, named()), crowd(2000), list(many(300, list())...), named(manyNames(300)...), list(many(6, named(manyNames(300)...))...),
		text(strings.Repeat("x", 2000)), blob(strings.Repeat("\xff", 2000)), one(strings.Repeat("\x1f", 2000), text(strings.Repeat("\"", 2000))), list(many(16, text(strings.Repeat("x", 2000)))...), list(many(17, text(strings.Repeat("x", 2000)))...), list(many(5, text(strings.Repeat("\x01", 2000)))...), list(many(6, text(strings.Repeat("\x01", 2000)))...), list(many(6, blob(strings.Repeat("\x01", 2000)))...),
		list(many(300, number("18446744073709551615"))...), list(many(300, number("1e22"))...), list(many(300, number("1e1200"))...), number("1e-1200"),
	} {
		for _, from := range formats {
			for _, to := range formats {
				counts[back(t, from, to, v)]++
			}
		}
	}
	if counts[api.OK] < 100 || counts[api.Unrep] < 5 || counts[api.Limit] < 5 {
		t.Error(counts)
	}
}

// P13.1: of bytes with one changed, whether they are canonical is whether they are what they are encoded as.
func TestCanonicalChanged(t *testing.T) {
	r := rand.New(rand.NewSource(133))
	counts := map[bool]int{}
	for range 400 {
		v := mixedValue(r, 3, 8)
		for _, format := range formats {
			b, _ := codec.Encode(format, v)
			for at := range min(len(b), 40) {
				changed := b[:at] + string([]byte{byte(r.Intn(256))}) + b[at+1:]
				value, e := codec.Decode(format, changed)
				again, againE := codec.Encode(format, value)
				want := e == api.OK && againE == api.OK && again == changed
				if codec.Canonical(format, changed) != want {
					t.Fatalf("Canonical(%d, %s) is not %t", format, short(changed), want)
				}
				counts[want]++
			}
		}
	}
	if counts[true] < 1000 || counts[false] < 1000 {
		t.Error(counts)
	}
}

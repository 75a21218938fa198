package num_test

import (
	"math/big"
	"regexp"
	"slices"
	"strconv"
	"strings"
	"testing"

	"erratum/api"
	"erratum/num"
)

func TestText(t *testing.T) {
	for _, x := range []struct {
		n    api.Num
		want string
	}{
		{api.Num{}, "0"}, {api.Num{M: []uint32{}}, "0"}, {plain(7, 0), "7"}, {minus(plain(7, 0)), "-7"}, {plain(15, 2), "1500"}, {minus(plain(12, 2)), "-1200"}, {plain(123, 0), "123"},
		{plain(1, 20), "100000000000000000000"}, {plain(1, 21), "1e+21"}, {plain(12, 19), "120000000000000000000"}, {plain(12, 20), "1.2e+21"}, {minus(plain(12, 20)), "-1.2e+21"}, {plain(1, 1200), "1e+1200"}, {plain(123, 1200), "1.23e+1202"},
		{plain(15, -1), "1.5"}, {plain(1501, -2), "15.01"}, {minus(plain(123456, -5)), "-1.23456"}, {plain(123456, -1), "12345.6"},
		{plain(1, -1), "0.1"}, {plain(12, -2), "0.12"}, {plain(12, -3), "0.012"}, {plain(12, -7), "0.0000012"}, {plain(12, -8), "1.2e-7"}, {plain(1, -6), "0.000001"}, {plain(1, -7), "1e-7"}, {minus(plain(1, -7)), "-1e-7"}, {minus(plain(1, -6)), "-0.000001"}, {plain(1, -1200), "1e-1200"}, {minus(plain(123, -1200)), "-1.23e-1198"},
		{api.Num{M: digits("123456789012345678901")}, "123456789012345678901"}, {api.Num{M: digits("1234567890123456789012")}, "1.234567890123456789012e+21"}, {api.Num{M: digits("1234567890123456789012"), E: -1}, "123456789012345678901.2"}, {api.Num{M: digits("12345678901234567890123"), E: -1}, "1.2345678901234567890123e+21"}, {api.Num{M: digits("1234567890123456789012"), E: -22}, "0.1234567890123456789012"}, {api.Num{M: digits("1234567890123456789012"), E: -27}, "0.000001234567890123456789012"}, {api.Num{M: digits("1234567890123456789012"), E: -28}, "1.234567890123456789012e-7"},
	} {
		if got := num.Text(x.n); got != x.want {
			t.Errorf("Text of %s: %s, not %s", tell(x.n), got, x.want)
		}
	}
}

// TestTextPlaces: each count of digits with the point at each place near an edge, by a text that is cut from the digits with zeros around them.
func TestTextPlaces(t *testing.T) {
	for k := 1; k <= 30; k++ {
		d := strings.Repeat("1234567891", 3)[:k]
		if k%10 == 0 {
			d = d[:k-1] + "7"
		}
		for p := -9; p <= 25; p++ {
			var want string
			switch {
			case p < -5 || p > 21:
				want = d[:1] + strings.TrimSuffix("."+d[1:], ".") + "e" + map[bool]string{false: "-", true: "+"}[p > 0] + strings.TrimPrefix(strconv.Itoa(p-1), "-")
			case p < 1:
				want = "0." + strings.Repeat("0", -p) + d
			default:
				zeros := d + strings.Repeat("0", 30)
				want = strings.TrimSuffix(zeros[:p]+"."+d[min(p, k):], ".")
			}
			if got := num.Text(api.Num{M: digits(d), E: p - k}); got != want {
				t.Errorf("%s with the point at %d: %s, not %s", d, p, got, want)
			}
			if got := num.Text(api.Num{M: digits(d), E: p - k, Neg: true}); got != "-"+want {
				t.Errorf("minus %s with the point at %d: %s", d, p, got)
			}
		}
	}
}

// TestTextParsed: the text of a number is one of JSON, and is parsed as it.
func TestTextParsed(t *testing.T) {
	for _, n := range good() {
		s := num.Text(n)
		if !shape.MatchString(s) {
			t.Errorf("Text of %s: %s", tell(n), s)
		}
		if got, e := num.Parse(s); e != api.OK || !equal(got, n) || !num.Same(got, n) {
			t.Errorf("%s parsed: %s, %d", s, tell(got), e)
		}
	}
}

// shape is what JSON has as numbers.
var shape = regexp.MustCompile(`^-?(0|[1-9][0-9]*)(\.[0-9]+)?([eE][+-]?[0-9]+)?$`)

// wantParse is what Parse has to answer, by another program's fractions; of exponents that are not great.
func wantParse(s string) (api.Num, api.Errno) {
	if len(s) > 2000 {
		return api.Num{}, api.Limit
	}
	if !shape.MatchString(s) {
		return api.Num{}, api.Malformed
	}
	mantissa, exponent, _ := strings.Cut(strings.ToLower(s), "e")
	whole, fraction, _ := strings.Cut(mantissa, ".")
	m, _ := new(big.Int).SetString(whole+fraction, 10)
	if m.Sign() == 0 {
		return api.Num{}, api.OK
	}
	e, _ := strconv.Atoi(exponent)
	e -= len(fraction)
	ten, rem := big.NewInt(10), new(big.Int)
	for {
		quo, _ := new(big.Int).QuoRem(m, ten, rem)
		if rem.Sign() != 0 {
			break
		}
		m = quo
		e++
	}
	if e < -1200 || e > 1200 || m.BitLen() > 2880 {
		return api.Num{}, api.Limit
	}
	return api.Num{Neg: m.Sign() < 0, M: limbs(m.Abs(m)), E: e}, api.OK
}

// checkParse holds Parse against wantParse.
func checkParse(t *testing.T, s string) {
	t.Helper()
	got, e := num.Parse(s)
	if want, wantE := wantParse(s); e != wantE || !equal(got, want) {
		t.Errorf("Parse of %q (%d bytes): %s, %d; not %s, %d", s[:min(len(s), 100)], len(s), tell(got), e, tell(want), wantE)
	}
}

// checkLonger is checkParse of s, and of s with up to most more bytes.
func checkLonger(t *testing.T, s string, most int) {
	t.Helper()
	checkParse(t, s)
	if most == 0 {
		return
	}
	for _, c := range "-+015.eEx" {
		checkLonger(t, s+string(c), most-1)
	}
}

// TestParseAll: all short texts of a few bytes, and some that begin well.
func TestParseAll(t *testing.T) {
	checkLonger(t, "", 5)
	for _, s := range []string{"-1.5", "10.5e", "-0.0", "1e+", "0.1E-", "15.1e1"} {
		checkLonger(t, s, 4)
	}
}

func TestParseMade(t *testing.T) {
	nines := strings.Repeat("9", 900)
	for _, sign := range []string{"", "-"} {
		for _, whole := range []string{"0", "1", "10", "7000", "123456789", "10000000000000000000000", nines[:866], nines[:867], strings.Repeat("1", 867), strings.Repeat("1", 868), "1" + strings.Repeat("0", 1000)} {
			for _, fraction := range []string{"", ".0", ".5", ".50", ".000", ".00000000000000000000001", "." + strings.Repeat("0", 600) + "1", "." + nines[:400]} {
				for _, exponent := range []string{"", "e0", "E-0", "e+00", "e5", "E+5", "e-5", "e-600", "e200", "e1199", "e1200", "e1201", "E1800", "e2400", "e-1199", "e-1200", "e-1201", "e-2400", "e+0001200", "e-00000000001200", "e999999", "e-999999"} {
					checkParse(t, sign+whole+fraction+exponent)
				}
			}
		}
	}
}

// TestParseExponents: an exponent of more than six digits.
func TestParseExponents(t *testing.T) {
	zeros := strings.Repeat("0", 1000)
	for _, x := range []struct {
		s    string
		want api.Num
		e    api.Errno
	}{
		{"1e999999", api.Num{}, api.Limit}, {"1e1000000", api.Num{}, api.Limit}, {"1e-1000000", api.Num{}, api.Limit}, {"1e0000000999999", api.Num{}, api.Limit}, {"1e0000001000000", api.Num{}, api.Limit},
		{"1e0000001", plain(1, 1), api.OK}, {"1e-0000001", plain(1, -1), api.OK}, {"1E+000000000000000000000000000000007", plain(1, 7), api.OK}, {"15e" + zeros + "1200", plain(15, 1200), api.OK}, {"15e-" + zeros, plain(15, 0), api.OK}, {"15e" + zeros + "1201", api.Num{}, api.Limit},
		{"1e18446744073709551617", api.Num{}, api.Limit}, {"1e-18446744073709551617", api.Num{}, api.Limit}, {"1e4294967297", api.Num{}, api.Limit}, {"1e" + strings.Repeat("9", 1900), api.Num{}, api.Limit},
		{"0e1000000", api.Num{}, api.OK}, {"-0e-1000000", api.Num{}, api.OK}, {"0.000e18446744073709551617", api.Num{}, api.OK}, {"-0.0E-" + strings.Repeat("9", 1900), api.Num{}, api.OK}, {"0e1201", api.Num{}, api.OK},
		{"0e1000000x", api.Num{}, api.Malformed}, {"1e1000000x", api.Num{}, api.Malformed}, {"01e1000000", api.Num{}, api.Malformed}, {"1e1201.0", api.Num{}, api.Malformed}, {"1e10000000-", api.Num{}, api.Malformed},
		{"1000e1197", plain(1, 1200), api.OK}, {"1000e1198", api.Num{}, api.Limit}, {"0." + zeros + "1e2201", plain(1, 1200), api.OK}, {"0." + zeros + "1e2202", api.Num{}, api.Limit}, {"1" + zeros + "e-2200", plain(1, -1200), api.OK}, {"1" + zeros + "e-2201", api.Num{}, api.Limit}, {"1.5" + zeros + "e-1199", plain(15, -1200), api.OK}, {"1.5" + zeros + "e-1200", api.Num{}, api.Limit},
	} {
		if got, e := num.Parse(x.s); e != x.e || !equal(got, x.want) {
			t.Errorf("Parse of %q: %s, %d", x.s, tell(got), e)
		}
	}
}

// TestParseLength: texts of 2000 bytes, and of one more; too long is told ahead of all else.
func TestParseLength(t *testing.T) {
	for _, x := range []struct{ head, pad, tail string }{
		{"0.", "0", ""}, {"-0.", "0", ""}, {"0.", "0", "1"}, {"1", "0", ""}, {"1.", "0", ""}, {"-15.", "0", "e-7"}, {"1e", "0", "1200"}, {"", "x", ""}, {"1", " ", ""}, {"", "7", ""}, {"-", "9", "e-1000"}, {"1", "0", "e-999"}, {"1", "0", "e-1998"}, {"0e", "9", ""},
	} {
		for _, long := range []int{1999, 2000, 2001, 2002, 4000} {
			checkParse(t, x.head+strings.Repeat(x.pad, long-len(x.head)-len(x.tail))+x.tail)
		}
	}
	s := "1" + strings.Repeat("0", 1992) + "e-1992"
	if got, e := num.Parse(s); e != api.OK || !equal(got, plain(1, 0)) {
		t.Errorf("%d bytes: %s, %d", len(s), tell(got), e)
	}
	if got, e := num.Parse("1.5" + strings.Repeat("0", 1997)); e != api.OK || !equal(got, plain(15, -1)) {
		t.Errorf("2000 bytes: %s, %d", tell(got), e)
	}
	if got, e := num.Parse("1.5" + strings.Repeat("0", 1998)); e != api.Limit || !equal(got, api.Num{}) {
		t.Errorf("2001 bytes: %s, %d", tell(got), e)
	}
	if _, e := num.Parse(strings.Repeat("x", 1<<20)); e != api.Limit {
		t.Error("very long:", e)
	}
}

// TestParseRefuses: what JSON does not have as a number.
func TestParseRefuses(t *testing.T) {
	wrong := []string{
		"", " ", "-", "+", ".", "e", "E5", "--1", "-+1", "+1", "+0", "1-", "1+", "1 ", " 1", "1\n", "\t1", "\ufeff1", "1\x00", "\x001", "- 1",
		"00", "01", "-00", "-01", "007", "00.5", "-01e5", "0123456789", ".5", "-.5", "1.", "-1.", "0.", "1.e5", ".e5", "1..5", "1.5.5", "1. 5", "1.-5", "1.+5",
		"1e", "1E", "1e+", "1e-", "-1.5E+", "1ee5", "1eE5", "1e5e5", "1e+-5", "1e--5", "1e++5", "1e5.5", "1e.5", "1e 5", "1e5-", "e1", "-e1", "0e",
		"0x1", "0X1F", "1f", "0b1", "0o7", "1_000", "1,5", "1'000", "1/2", "1:", "1/", "/", ":", "1.5:", "1.5/", "1e5:", "1e5/", "1;", "NaN", "nan", "Infinity", "-Infinity", "inf", "null", "true", "\"1\"", "[1]", "1n", "1d", "1p5", "0x1p5",
		"\u0663", "\uff11", "1\u0663", "\xff", "1\xff", "1.\xff", "1e\xb2", "\u22121", "\u20131",
	}
	for _, s := range wrong {
		if got, e := num.Parse(s); e != api.Malformed || !equal(got, api.Num{}) {
			t.Errorf("Parse of %q: %s, %d", s, tell(got), e)
		}
	}
	for at, fine := 0, "-1234567890.0123456789e-123"; at <= len(fine); at++ {
		for c := range 256 {
			checkParse(t, fine[:at]+string([]byte{byte(c)})+fine[at:])
			if at < len(fine) {
				checkParse(t, fine[:at]+string([]byte{byte(c)})+fine[at+1:])
			}
		}
	}
}

// TestParseOne: texts of one number are parsed as one.
func TestParseOne(t *testing.T) {
	for _, same := range [][]string{
		{"1.50", "15e-1", "1.5", "0.15e1", "150E-2", "1.5e0", "1.5e+00", "0.0015e3"}, {"0", "-0", "0.0", "-0.00", "0e5", "0E-9999999999"}, {"-1200", "-12e2", "-1.2E+3", "-1200.000", "-120000e-2"}, {"1500", "1.50e3", "15E2"},
	} {
		first, e := num.Parse(same[0])
		for _, s := range same {
			if got, other := num.Parse(s); e != api.OK || other != api.OK || !num.Same(got, first) || num.Cmp(got, first) != 0 {
				t.Errorf("%s and %s: %s, %d", same[0], s, tell(got), other)
			}
		}
	}
	if got, _ := num.Parse("1.50e3"); !slices.Equal(got.M, []uint32{15}) || got.E != 2 || num.Text(got) != "1500" {
		t.Errorf("1.50e3: %s, %s", tell(got), num.Text(got))
	}
}

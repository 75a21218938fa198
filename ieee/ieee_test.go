package ieee_test

import (
	"math"
	"math/big"
	"slices"
	"strings"
	"testing"

	"erratum/api"
	"erratum/ieee"
	"erratum/num"
)

// What Kind answers.
const (
	noWidth  = 0
	number   = 1
	nought   = 2
	infinity = 3
	none     = 4
)

// widths are all there are.
var widths = []int{16, 32, 64}

// wrongWidths are some that no float has.
var wrongWidths = []int{0, 1, -1, 8, 15, 17, 31, 33, 63, 65, 128, 256, -16, -32, -64, math.MaxInt, math.MinInt}

// fractions are how many bits of a fraction a width has.
func fractions(width int) int {
	return map[int]int{16: 10, 32: 23, 64: 52}[width]
}

// float is what bits of a width are, by the machine's own floats; of 16 bits by its parts.
func float(width int, bits uint64) float64 {
	switch width {
	case 64:
		return math.Float64frombits(bits)
	case 32:
		return float64(math.Float32frombits(uint32(bits)))
	}
	f := float64(bits & 0x3ff)
	switch exponent := int(bits >> 10 & 31); exponent {
	case 0:
		f = math.Ldexp(f, -24)
	case 31:
		f = math.Inf(1)
		if bits&0x3ff > 0 {
			return math.NaN()
		}
	default:
		f = math.Ldexp(1024+f, exponent-25)
	}
	if bits>>15&1 == 1 {
		return -f
	}
	return f
}

// kind is what Kind must answer of a float.
func kind(f float64) int {
	switch {
	case math.IsNaN(f):
		return none
	case math.IsInf(f, 0):
		return infinity
	case f == 0:
		return nought
	}
	return number
}

// value is what a number is, by another program's fractions.
func value(n api.Num) *big.Rat {
	m := new(big.Int)
	for i := len(n.M) - 1; i >= 0; i-- {
		m.Lsh(m, 32)
		m.Or(m, new(big.Int).SetUint64(uint64(n.M[i])))
	}
	if n.Neg {
		m.Neg(m)
	}
	r := new(big.Rat).SetInt(m)
	tens := new(big.Rat).SetInt(new(big.Int).Exp(big.NewInt(10), big.NewInt(int64(max(n.E, -n.E))), nil))
	if n.E < 0 {
		return r.Quo(r, tens)
	}
	return r.Mul(r, tens)
}

// numberOf is a fraction as a number. Its nether part is a power of two.
func numberOf(t *testing.T, r *big.Rat) api.Num {
	t.Helper()
	places := r.Denom().BitLen() - 1
	m := new(big.Int).Exp(big.NewInt(5), big.NewInt(int64(places)), nil)
	m.Mul(m, new(big.Int).Abs(r.Num()))
	var l []uint32
	for ; m.Sign() > 0; m.Rsh(m, 32) {
		l = append(l, uint32(m.Uint64()))
	}
	n, ok := num.Make(r.Sign() < 0, l, -places)
	if !ok {
		t.Fatal("no room for", r)
	}
	return n
}

// parsed is the number of a text.
func parsed(t *testing.T, s string) api.Num {
	t.Helper()
	n, e := num.Parse(s)
	if e != api.OK {
		t.Fatal(s, e)
	}
	return n
}

// two is a power of two, below 0 or not.
func two(t *testing.T, e int) api.Num {
	t.Helper()
	r := new(big.Rat).SetInt(new(big.Int).Lsh(big.NewInt(1), uint(max(e, -e))))
	if e < 0 {
		r.Inv(r)
	}
	return numberOf(t, r)
}

// edges are bits of a width at all its edges, and near them: each exponent with fractions at its ends and in its midst, either sign.
func edges(width int) []uint64 {
	fraction := fractions(width)
	most := uint64(1)<<fraction - 1
	var all []uint64
	for exponent := range uint64(1) << (width - 1 - fraction) {
		for _, f := range []uint64{0, 1, 2, 3, most / 3, most / 2, most/2 + 1, most - 1, most} {
			word := exponent<<fraction | f
			all = append(all, word, word|1<<(width-1))
		}
	}
	return all
}

// mixed are bits of a width without any order, ever the same.
func mixed(width, many int) []uint64 {
	var all []uint64
	state := uint64(88172645463325252)
	for range many {
		state ^= state << 13
		state ^= state >> 7
		state ^= state << 17
		all = append(all, state>>(64-width))
	}
	return all
}

// samples are bits of a width: of 16 all there are.
func samples(width int) []uint64 {
	if width > 16 {
		return append(edges(width), mixed(width, 2000)...)
	}
	var all []uint64
	for word := range uint64(1) << 16 {
		all = append(all, word)
	}
	return all
}

// checkFloat holds Kind, Exact and To of bits against the float that they are.
func checkFloat(t *testing.T, width int, word uint64) {
	t.Helper()
	f := float(width, word)
	if got := ieee.Kind(width, word); got != kind(f) {
		t.Fatalf("Kind(%d, %x): %d", width, word, got)
	}
	n, ok := ieee.Exact(width, word)
	if kind(f) == infinity || kind(f) == none {
		if ok || n.Neg || len(n.M) != 0 || n.E != 0 {
			t.Fatalf("Exact(%d, %x): %s, %v", width, word, num.Text(n), ok)
		}
		return
	}
	if !ok || !num.Check(n) || value(n).Cmp(new(big.Rat).SetFloat64(f)) != 0 {
		t.Fatalf("Exact(%d, %x): %s, %v", width, word, num.Text(n), ok)
	}
	if f == 0 {
		word = 0 // a nought of either sign is 0, and 0 is all bits 0
	}
	if bits, ok := ieee.To(width, n); !ok || bits != word {
		t.Fatalf("To(%d, %s): %x, %v, not %x", width, num.Text(n), bits, ok, word)
	}
}

func TestFloats(t *testing.T) {
	for _, width := range widths {
		for _, word := range samples(width) {
			checkFloat(t, width, word)
		}
	}
}

// TestKnown: some floats by their bits as everybody writes them.
func TestKnown(t *testing.T) {
	for _, x := range []struct {
		width int
		bits  uint64
		kind  int
		text  string
	}{
		{16, 0x3c00, number, "1"}, {16, 0xc000, number, "-2"}, {16, 0x7bff, number, "65504"}, {16, 0xfbff, number, "-65504"}, {16, 0x0001, number, "5.9604644775390625e-8"}, {16, 0x03ff, number, "0.000060975551605224609375"}, {16, 0x0400, number, "0.00006103515625"}, {16, 0x0000, nought, "0"}, {16, 0x8000, nought, "0"},
		{32, 0x3f800000, number, "1"}, {32, 0x3dcccccd, number, "0.100000001490116119384765625"}, {32, 0x7f7fffff, number, "3.40282346638528859811704183484516925440e38"}, {32, 0xc2ed4000, number, "-118.625"}, {32, 0x80000000, nought, "0"},
		{64, 0x3ff0000000000000, number, "1"}, {64, 0x3fb999999999999a, number, "0.1000000000000000055511151231257827021181583404541015625"}, {64, 0x4340000000000000, number, "9007199254740992"}, {64, 0xc340000000000001, number, "-9007199254740994"}, {64, 0x4480f0cf064dd592, number, "1e22"}, {64, 0x8000000000000000, nought, "0"},
	} {
		if got := ieee.Kind(x.width, x.bits); got != x.kind {
			t.Errorf("Kind(%d, %x): %d", x.width, x.bits, got)
		}
		got, ok := ieee.Exact(x.width, x.bits)
		if !ok || !num.Same(got, parsed(t, x.text)) {
			t.Errorf("Exact(%d, %x): %s, %v", x.width, x.bits, num.Text(got), ok)
		}
	}
}

// TestKindEdges: bits next to infinities and to noughts.
func TestKindEdges(t *testing.T) {
	for _, width := range widths {
		sign := uint64(1) << (width - 1)
		inf := sign - uint64(1)<<fractions(width)
		for _, x := range []struct {
			bits uint64
			want int
		}{{0, nought}, {1, number}, {inf - 1, number}, {inf, infinity}, {inf + 1, none}, {inf + 1<<(fractions(width)-1), none}, {sign - 1, none}} {
			if got := ieee.Kind(width, x.bits); got != x.want {
				t.Errorf("Kind(%d, %x): %d", width, x.bits, got)
			}
			if got := ieee.Kind(width, x.bits|sign); got != x.want {
				t.Errorf("Kind(%d, %x): %d", width, x.bits|sign, got)
			}
		}
	}
}

// TestBitsAbove: bits above the width play no part.
func TestBitsAbove(t *testing.T) {
	for _, width := range []int{16, 32} {
		for _, word := range []uint64{0, 1, 0x3c00, 0x7bff, 0x7c00, 0x7c01, 0x8000, 0xffff, 0x3f800000 >> (32 - width)} {
			n, ok := ieee.Exact(width, word)
			for _, above := range []uint64{1, 3, 0xff, 0x8000, math.MaxUint64 >> width} {
				more := word | above<<width
				if got := ieee.Kind(width, more); got != ieee.Kind(width, word) {
					t.Errorf("Kind(%d, %x): %d", width, more, got)
				}
				if got, same := ieee.Exact(width, more); same != ok || !num.Same(got, n) {
					t.Errorf("Exact(%d, %x): %s, %v", width, more, num.Text(got), same)
				}
			}
		}
	}
}

func TestWrongWidths(t *testing.T) {
	numbers := []api.Num{{}, parsed(t, "1"), parsed(t, "0.5"), parsed(t, "-65504"), {E: 1}}
	for _, width := range wrongWidths {
		for _, word := range []uint64{0, 1, 0x3c00, 0x7c00, math.MaxUint64} {
			if got := ieee.Kind(width, word); got != noWidth {
				t.Errorf("Kind(%d, %x): %d", width, word, got)
			}
			if n, ok := ieee.Exact(width, word); ok || n.Neg || len(n.M) != 0 || n.E != 0 {
				t.Errorf("Exact(%d, %x): %s, %v", width, word, num.Text(n), ok)
			}
		}
		for _, n := range numbers {
			if bits, ok := ieee.To(width, n); ok || bits != 0 {
				t.Errorf("To(%d, %s): %x, %v", width, num.Text(n), bits, ok)
			}
		}
	}
}

// wantNone asks that no float of a width is a number, either sign.
func wantNone(t *testing.T, width int, n api.Num) {
	t.Helper()
	for range 2 {
		n.Neg = !n.Neg
		if bits, ok := ieee.To(width, n); ok || bits != 0 {
			t.Fatalf("To(%d, %s): %x, %v", width, num.Text(n), bits, ok)
		}
	}
}

// TestBetween: what lies between two floats that are next to one another is none, be it the middle or close to one of them.
func TestBetween(t *testing.T) {
	parts := []*big.Rat{big.NewRat(1, 2), big.NewRat(1, 4), big.NewRat(3, 4), big.NewRat(1, 1<<20), big.NewRat(1<<20-1, 1<<20)}
	for _, width := range widths {
		inf := uint64(1)<<(width-1) - uint64(1)<<fractions(width)
		for _, word := range edges(width) {
			if word&(1<<(width-1)) != 0 || word+1 >= inf {
				continue
			}
			low, high := new(big.Rat).SetFloat64(float(width, word)), new(big.Rat).SetFloat64(float(width, word+1))
			gap := new(big.Rat).Sub(high, low)
			for _, part := range parts {
				between := new(big.Rat).Mul(gap, part)
				wantNone(t, width, numberOf(t, between.Add(between, low)))
			}
		}
	}
}

// TestOutside: what is above the greatest, below the least, or no natural times twos.
func TestOutside(t *testing.T) {
	for _, x := range []struct{ width, above, least int }{{16, 16, -24}, {32, 128, -149}, {64, 1024, -1074}} {
		for _, e := range []int{x.above, x.above + 1, x.above + 2, 2 * x.above, x.least - 1, x.least - 2} {
			wantNone(t, x.width, two(t, e))
		}
		most, _ := ieee.Exact(x.width, uint64(1)<<(x.width-1)-uint64(1)<<fractions(x.width)-1)
		for _, more := range []*big.Rat{big.NewRat(1, 1), big.NewRat(1, 2), new(big.Rat).SetInt(new(big.Int).Lsh(big.NewInt(1), uint(x.above-2-fractions(x.width))))} {
			wantNone(t, x.width, numberOf(t, more.Add(more, value(most))))
		}
		for _, s := range []string{"0.1", "0.2", "0.3", "1e-1", "1.1", "2.7", "1e-5", "1e23", "3e-7", "1e1200", "1e-1200", "7e-1200", "0.00000017881393432617187", strings.Repeat("9", 300), strings.Repeat("1", 800) + "e900", "0." + strings.Repeat("3", 800)} {
			wantNone(t, x.width, parsed(t, s))
		}
	}
	wide := make([]uint32, api.MaxLimbs)
	wide[api.MaxLimbs-1] = 1 << 31
	for _, e := range []int{0, 1, 1200} { // the greatest power of two that a list holds, and with tens
		wantNone(t, 64, api.Num{M: wide, E: e})
	}
	for i := range wide {
		wide[i] = math.MaxUint32
	}
	for _, e := range []int{0, 1, -1, 1200, -1200} {
		wantNone(t, 64, api.Num{M: wide, E: e})
	}
}

// TestTens: numbers that have many tens ahead of, or behind, their twos, and floats all the same.
func TestTens(t *testing.T) {
	for _, x := range []struct {
		text  string
		width int
		bits  uint64
	}{
		{"1e1", 16, 0x4900}, {"1e4", 16, 0x70e2}, {"1e5", 32, 0x47c35000}, {"1e10", 32, 0x501502f9}, {"1e11", 64, 0x42374876e8000000}, {"1e22", 64, 0x4480f0cf064dd592}, {"-1e22", 64, 0xc480f0cf064dd592}, {"9007199254740991", 64, 0x433fffffffffffff}, {"9007199254740992", 32, 0x5a000000}, {"9007199254740994", 64, 0x4340000000000001}, {"4503599627370495.5", 64, 0x432fffffffffffff}, {"-0.0009765625", 16, 0x9400},
	} {
		n := parsed(t, x.text)
		if width, bits, ok := ieee.Shortest(n); !ok || width != x.width || bits != x.bits {
			t.Errorf("Shortest(%s): %d, %x, %v", x.text, width, bits, ok)
		}
	}
	for _, x := range []struct {
		text string
		ok   bool
	}{{"9007199254740993", false}, {"90071992547409930", false}, {"4503599627370495.25", false}, {"18014398509481982", true}, {"18014398509481983", false}, {"18446744073709551616", true}, {"18446744073709551615", false}, {"36893488147419103231", false}, {"18446744073709551617", false}, {"36893488147419103233", false}, {"1267650600228229401496703205377", false}, {"8388608.00000000000045474735088646411895751953125", false}} {
		if bits, ok := ieee.To(64, parsed(t, x.text)); ok != x.ok || !ok && bits != 0 {
			t.Errorf("To(64, %s): %x, %v", x.text, bits, ok)
		}
	}
}

// TestBadAsNought: To and Shortest take what may not be as 0.
func TestBadAsNought(t *testing.T) {
	long := make([]uint32, 91)
	long[90] = 1
	for i, n := range []api.Num{
		{}, {M: []uint32{}}, {Neg: true}, {E: 1}, {E: -1}, {Neg: true, E: math.MinInt}, {M: []uint32{0}}, {M: []uint32{7, 0}}, {M: []uint32{0, 0, 0}}, {M: []uint32{10}}, {M: []uint32{70}, Neg: true}, {M: []uint32{1}, E: 1201}, {M: []uint32{1}, E: -1201}, {M: []uint32{1}, E: math.MaxInt}, {M: []uint32{1}, E: math.MinInt}, {M: long}, {M: long, Neg: true, E: 5}, {M: make([]uint32, 1000)},
	} {
		for _, width := range widths {
			if bits, ok := ieee.To(width, n); bits != 0 || !ok {
				t.Errorf("%d: To(%d): %x, %v", i, width, bits, ok)
			}
		}
		if width, bits, ok := ieee.Shortest(n); width != 16 || bits != 0 || !ok {
			t.Errorf("%d: Shortest: %d, %x, %v", i, width, bits, ok)
		}
	}
}

// TestShortest: of each float, the least width that has it, and none of a lesser width.
func TestShortest(t *testing.T) {
	for _, from := range widths {
		for i, word := range samples(from) {
			if from == 16 && i%7 != 0 { // not all, lest it take long
				continue
			}
			n, ok := ieee.Exact(from, word)
			if !ok {
				continue
			}
			width, bits, ok := ieee.Shortest(n)
			if !ok || width > from || float(width, bits) != float(from, word) {
				t.Fatalf("Shortest of %d bits %x: %d, %x, %v", from, word, width, bits, ok)
			}
			for less := 16; less < width; less *= 2 {
				wantNone(t, less, n)
			}
		}
	}
	for _, s := range []string{"0.1", "1e23", "1e-1200", "1e1200", "-9007199254740993"} {
		if width, bits, ok := ieee.Shortest(parsed(t, s)); width != 0 || bits != 0 || ok {
			t.Errorf("Shortest(%s): %d, %x, %v", s, width, bits, ok)
		}
	}
	for _, x := range []struct{ e, width int }{{15, 16}, {16, 32}, {-24, 16}, {-25, 32}, {127, 32}, {128, 64}, {-149, 32}, {-150, 64}, {1023, 64}, {1024, 0}, {-1074, 64}, {-1075, 0}} {
		if width, _, ok := ieee.Shortest(two(t, x.e)); width != x.width || ok != (x.width > 0) {
			t.Errorf("Shortest of 2 to the %d: %d, %v", x.e, width, ok)
		}
	}
}

// TestMore: a float of fewer bits is one of more.
func TestMore(t *testing.T) {
	for _, from := range []int{16, 32} {
		for _, word := range append(edges(from), mixed(from, 500)...) {
			n, ok := ieee.Exact(from, word)
			if !ok {
				continue
			}
			for width := 2 * from; width <= 64; width *= 2 {
				bits, ok := ieee.To(width, n)
				more, exact := ieee.Exact(width, bits)
				if !ok || !exact || !num.Same(more, n) {
					t.Fatalf("%d bits %x by %d: %x, %v", from, word, width, bits, ok)
				}
			}
		}
	}
}

// floats are floats of each kind, each sign, at each edge.
func floats() []float64 {
	all := []float64{math.NaN()}
	for _, word := range []uint64{0, 1, 2, 0x000fffffffffffff, 0x0010000000000000, 0x0010000000000001, 0x3fb999999999999a, 0x3fefffffffffffff, 0x3ff0000000000000, 0x3ff0000000000001, 0x4340000000000000, 0x7fefffffffffffff, 0x7ff0000000000000, 0x7ff0000000000001, 0x7ff8000000000000, 0x7fffffffffffffff} {
		all = append(all, math.Float64frombits(word), math.Float64frombits(word|1<<63))
	}
	return all
}

func TestFloat(t *testing.T) {
	for _, f := range append(floats(), 1.5, -480, 0.1, 1e22, 1e23, math.Pi, 1e308, 5e-324) {
		n, ok := ieee.Float(f)
		if k := kind(f); ok != (k == number || k == nought) {
			t.Errorf("Float(%x): %v", math.Float64bits(f), ok)
		}
		if !ok {
			if n.Neg || len(n.M) != 0 || n.E != 0 {
				t.Errorf("Float(%x): %s", math.Float64bits(f), num.Text(n))
			}
			continue
		}
		if !num.Check(n) || value(n).Cmp(new(big.Rat).SetFloat64(f)) != 0 {
			t.Errorf("Float(%x): %s", math.Float64bits(f), num.Text(n))
		}
		if bits, ok := ieee.To(64, n); !ok || math.Float64frombits(bits) != f {
			t.Errorf("Float(%x) and back: %x, %v", math.Float64bits(f), bits, ok)
		}
	}
}

func TestSame(t *testing.T) {
	all := floats()
	for _, f := range all {
		for _, g := range all {
			want := math.IsNaN(f) && math.IsNaN(g) || f == g && math.Signbit(f) == math.Signbit(g)
			if got := ieee.Same(f, g); got != want {
				t.Errorf("Same(%x, %x): %v", math.Float64bits(f), math.Float64bits(g), got)
			}
		}
	}
}

// TestListsStay: the limbs that are handed in are neither changed nor shared, nor is their spare room; each answer is new.
func TestListsStay(t *testing.T) {
	for _, l := range [][]uint32{{}, {0}, {1}, {7, 0}, {48}, {5}, {0, 1}, {0, 0, 3}, {1953125, 0}, {0xffffffff, 0xffffffff}} {
		for _, e := range []int{0, 1, -1, 9, -9, 1200, -1200} {
			whole := append(slices.Clone(l), 11, 12, 13)
			kept := slices.Clone(whole)
			n := api.Num{M: whole[:len(l)], E: e}
			for _, width := range widths {
				bits, ok := ieee.To(width, n)
				if again, same := ieee.To(width, api.Num{M: slices.Clone(l), E: e}); again != bits || same != ok {
					t.Errorf("%x E %d hangs on something else", l, e)
				}
				made, _ := ieee.Exact(width, bits)
				clear(made.M[:cap(made.M)])
			}
			ieee.Shortest(n)
			if !slices.Equal(whole, kept) {
				t.Errorf("%x E %d was changed, or is shared", l, e)
			}
		}
	}
	first, _ := ieee.Float(0.1)
	second, _ := ieee.Float(0.1)
	clear(first.M[:cap(first.M)])
	if third, ok := ieee.Float(0.1); !ok || !num.Same(second, third) || !num.Check(second) {
		t.Error("two answers share memory")
	}
}

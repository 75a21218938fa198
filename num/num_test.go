package num_test

import (
	"math"
	"math/big"
	"slices"
	"strconv"
	"strings"
	"testing"

	"erratum/api"
	"erratum/num"
)

// toBig is what limbs are, by another program's naturals.
func toBig(l []uint32) *big.Int {
	b := new(big.Int)
	for i := len(l) - 1; i >= 0; i-- {
		b.Lsh(b, 32)
		b.Or(b, new(big.Int).SetUint64(uint64(l[i])))
	}
	return b
}

// limbs is a natural as a list without 0 at its top.
func limbs(b *big.Int) []uint32 {
	var l []uint32
	for b = new(big.Int).Set(b); b.Sign() > 0; b.Rsh(b, 32) {
		l = append(l, uint32(b.Uint64()))
	}
	return l
}

// digits is a natural by its decimal digits, as a list.
func digits(s string) []uint32 {
	b, _ := new(big.Int).SetString(s, 10)
	return limbs(b)
}

// power is a natural to the n.
func power(base, n int64) *big.Int {
	return new(big.Int).Exp(big.NewInt(base), big.NewInt(n), nil)
}

// plain is a number of one limb.
func plain(m uint32, e int) api.Num { return api.Num{M: []uint32{m}, E: e} }

// minus is a number below 0.
func minus(n api.Num) api.Num {
	n.Neg = true
	return n
}

// equal tells whether two are the same, field by field, may they be or not.
func equal(a, b api.Num) bool {
	return a.Neg == b.Neg && a.E == b.E && slices.Equal(a.M, b.M)
}

// full is a list of so many limbs, none a 0, no multiple of ten.
func full(many int) []uint32 {
	l := make([]uint32, many)
	for i := range l {
		l[i] = 0xffffffff
	}
	return l
}

// tell is a number for a test's word, cut if it is long.
func tell(n api.Num) string {
	s := toBig(n.M).String()
	if len(s) > 60 {
		s = s[:60] + ".. (" + strconv.Itoa(len(s)) + " digits)"
	}
	if n.Neg {
		s = "-" + s
	}
	return s + " E " + strconv.Itoa(n.E) + ", " + strconv.Itoa(len(n.M)) + " limbs"
}

// value is what a number is, by another program's fractions.
func value(n api.Num) *big.Rat {
	m := toBig(n.M)
	if n.Neg {
		m.Neg(m)
	}
	r := new(big.Rat).SetInt(m)
	tens := new(big.Rat).SetInt(power(10, int64(max(n.E, -n.E))))
	if n.E < 0 {
		return r.Quo(r, tens)
	}
	return r.Mul(r, tens)
}

// good are numbers of many kinds: each limit, each sign, digits of many lengths.
func good() []api.Num {
	numbers := []api.Num{{}}
	for _, m := range [][]uint32{
		{1}, {2}, {5}, {7}, {9}, {11}, {99}, {101}, {12345}, {999999999}, {1000000001}, {0xffffffff}, {1, 1}, {2, 1}, {0, 1}, {0, 0, 1}, {0, 0, 3}, {0xffffffff, 0xffffffff},
		digits("999999999999999999999"), digits("1000000000000000000001"), digits("123456789012345678901234567890123456789"), digits(strings.Repeat("1", 400)), digits(strings.Repeat("9", 866)), digits(strings.Repeat("1", 867)), full(13), full(89), full(90),
	} {
		for _, e := range []int{0, 1, -1, 2, -2, 5, -5, -6, -7, 19, 20, 21, -20, -21, -22, 120, 121, -400, 600, -867, 1199, 1200, -1199, -1200} {
			n := api.Num{M: m, E: e}
			numbers = append(numbers, n, minus(n))
		}
	}
	return numbers
}

// bad are numbers that may not be.
func bad() []api.Num {
	return []api.Num{
		{Neg: true}, {E: 1}, {E: -1}, {Neg: true, E: 3}, {M: []uint32{}, Neg: true}, {E: math.MaxInt}, {E: math.MinInt},
		plain(0, 0), plain(0, 5), minus(plain(0, 0)), {M: []uint32{7, 0}}, {M: []uint32{0, 7, 0}}, {M: []uint32{0, 0}}, {M: append(full(89), 0)},
		plain(10, 0), plain(70, 3), plain(4294967290, 0), minus(plain(1200, -2)), {M: limbs(power(10, 10))}, {M: limbs(power(10, 20))}, {M: limbs(power(10, 866))}, {M: digits("18446744073709551620")}, {M: []uint32{4, 1}},
		plain(7, api.MaxExp+1), plain(7, -api.MaxExp-1), plain(7, math.MaxInt), plain(7, math.MinInt), minus(plain(7, 1201)),
		{M: full(91)}, {M: full(91), E: -1200}, {M: full(91), Neg: true}, {M: full(1000)}, {M: append(full(90), 0)},
	}
}

func TestCheck(t *testing.T) {
	for i, n := range good() {
		if !num.Check(n) {
			t.Errorf("number %d may be: %s", i, tell(n))
		}
	}
	for i, n := range bad() {
		if num.Check(n) {
			t.Errorf("number %d may not be: %s", i, tell(n))
		}
	}
	if !num.Check(api.Num{M: []uint32{}}) {
		t.Error("0 by an empty list may be")
	}
}

// TestCheckTens: naturals near a multiple of ten, of one limb and of more.
func TestCheckTens(t *testing.T) {
	for _, start := range []string{"1", "4294967200", "4294967290", "18446744073709551600", "79228162514264337593543950300"} {
		b, _ := new(big.Int).SetString(start, 10)
		for range 120 {
			want := new(big.Int).Mod(b, big.NewInt(10)).Sign() != 0
			if got := num.Check(api.Num{M: limbs(b)}); got != want {
				t.Errorf("Check of %s: %v", b, got)
			}
			b.Add(b, big.NewInt(1))
		}
	}
}

func TestMake(t *testing.T) {
	wide := full(api.MaxLimbs)
	wideTens := limbs(new(big.Int).Mul(toBig(wide), power(10, 30)))
	for i, x := range []struct {
		neg  bool
		m    []uint32
		e    int
		want api.Num
		ok   bool
	}{
		{false, nil, 0, api.Num{}, true}, {true, nil, 7, api.Num{}, true}, {true, []uint32{0, 0, 0}, math.MaxInt, api.Num{}, true}, {false, []uint32{0}, math.MinInt, api.Num{}, true},
		{false, []uint32{7}, 0, plain(7, 0), true}, {true, []uint32{7}, -3, minus(plain(7, -3)), true}, {true, []uint32{7, 0, 0}, 5, minus(plain(7, 5)), true},
		{false, []uint32{1200}, -5, plain(12, -3), true}, {true, []uint32{100, 0}, 2, minus(plain(1, 4)), true}, {false, limbs(power(10, 25)), -25, plain(1, 0), true},
		{false, []uint32{7}, 1200, plain(7, 1200), true}, {false, []uint32{7}, 1201, api.Num{}, false}, {false, []uint32{7}, -1200, plain(7, -1200), true}, {true, []uint32{7}, -1201, api.Num{}, false},
		{false, []uint32{700}, 1198, plain(7, 1200), true}, {false, []uint32{700}, 1199, api.Num{}, false}, {false, []uint32{700}, -1202, plain(7, -1200), true}, {false, []uint32{700}, -1203, api.Num{}, false},
		{false, []uint32{10}, math.MaxInt, api.Num{}, false}, {false, []uint32{10}, math.MaxInt - 1, api.Num{}, false}, {true, []uint32{10}, math.MinInt, api.Num{}, false}, {false, []uint32{7}, math.MinInt, api.Num{}, false}, {false, limbs(power(10, 1300)), math.MaxInt - 5, api.Num{}, false},
		{false, wide, 0, api.Num{M: wide}, true}, {true, append(slices.Clone(wide), 0, 0), 1200, api.Num{Neg: true, M: wide, E: 1200}, true}, {false, append(slices.Clone(wide), 1), 0, api.Num{}, false}, {false, full(91), -50, api.Num{}, false},
		{false, wideTens, -30, api.Num{M: wide}, true}, {false, wideTens, 1170, api.Num{M: wide, E: 1200}, true}, {false, wideTens, 1171, api.Num{}, false}, {false, limbs(power(10, 3000)), -3000, plain(1, 0), true},
	} {
		got, ok := num.Make(x.neg, x.m, x.e)
		if ok != x.ok || !equal(got, x.want) {
			t.Errorf("%d: Make with E %d: %s, %v", i, x.e, tell(got), ok)
		}
	}
	for _, n := range good() {
		if got, ok := num.Make(n.Neg, n.M, n.E); !ok || !equal(got, n) {
			t.Errorf("Make of %s: %s, %v", tell(n), tell(got), ok)
		}
	}
}

func TestOf(t *testing.T) {
	for _, v := range []int{0, 1, -1, 7, -7, 9, 10, -10, 100, 1200, -1200, 12345, 1000000000, math.MaxInt32, math.MinInt32, math.MaxUint32, 1 << 32, -1 << 32, 1<<32 + 1, 10000000000, -1000000000000000000, math.MaxInt, math.MaxInt - 7, math.MinInt, math.MinInt + 8} {
		got := num.Of(v)
		if !num.Check(got) || value(got).Cmp(new(big.Rat).SetInt64(int64(v))) != 0 {
			t.Errorf("Of(%d): %s", v, tell(got))
		}
	}
	if got := num.Of(-1200); !equal(got, minus(plain(12, 2))) {
		t.Error("Of(-1200):", tell(got))
	}
	if got := num.Of(math.MinInt); !equal(got, api.Num{Neg: true, M: []uint32{0, 1 << 31}}) {
		t.Error("Of the least:", tell(got))
	}
}

func TestInt(t *testing.T) {
	for _, n := range good() {
		neg, m, ok := num.Int(n)
		whole := value(n).Num()
		if n.E < 0 || whole.BitLen() > 400 {
			if neg || len(m) != 0 || ok {
				t.Errorf("Int of %s: %v, %x, %v", tell(n), neg, m, ok)
			}
			continue
		}
		if neg != n.Neg || !ok || !slices.Equal(m, limbs(new(big.Int).Abs(whole))) {
			t.Errorf("Int of %s: %v, %x, %v", tell(n), neg, m, ok)
		}
	}
	for i, n := range bad() {
		if neg, m, ok := num.Int(n); neg || len(m) != 0 || !ok {
			t.Errorf("bad %d as 0: %v, %x, %v", i, neg, m, ok)
		}
	}
}

// TestIntBits: whole numbers of 400 bits, and of one more.
func TestIntBits(t *testing.T) {
	most := new(big.Int).Sub(power(2, 400), big.NewInt(1))
	tens := new(big.Int).Mul(power(10, 3), new(big.Int).Quo(most, power(10, 3)))
	for _, x := range []struct {
		whole *big.Int
		ok    bool
	}{
		{most, true}, {tens, true}, {power(2, 400), false}, {power(2, 399), true}, {new(big.Int).Add(power(2, 400), big.NewInt(1)), false}, {new(big.Int).Add(tens, power(10, 3)), false}, {power(10, 120), true}, {power(10, 121), false}, {power(10, 1200), false},
	} {
		for _, below := range []bool{false, true} {
			n, _ := num.Make(below, limbs(x.whole), 0)
			neg, m, ok := num.Int(n)
			var want []uint32
			if x.ok {
				want = limbs(x.whole)
			}
			if ok != x.ok || neg != (below && x.ok) || !slices.Equal(m, want) {
				t.Errorf("Int of %s: %v, %x, %v", x.whole, neg, m, ok)
			}
		}
	}
}

func TestCmp(t *testing.T) {
	numbers := good()
	values := make([]*big.Rat, len(numbers))
	for i, n := range numbers {
		values[i] = value(n)
	}
	for i := range numbers {
		for k := i % 29; k < len(numbers); k += 29 { // not all pairs, lest it take long
			if got := num.Cmp(numbers[i], numbers[k]); got != values[i].Cmp(values[k]) {
				t.Fatalf("Cmp of %s and %s: %d", tell(numbers[i]), tell(numbers[k]), got)
			}
		}
	}
}

// TestCmpOrder: numbers as they rise; some are close, or far from one another by more than 1300 tens.
func TestCmpOrder(t *testing.T) {
	rising := []api.Num{
		minus(api.Num{M: full(90), E: 1200}), minus(plain(1, 1200)), minus(plain(2, 3)), minus(plain(12, 2)), minus(plain(11, 0)), minus(plain(101, -1)), minus(plain(1, 1)), minus(plain(1, -1200)),
		{},
		plain(1, -1200), plain(11, -1200), plain(2, -1199), {M: digits(strings.Repeat("9", 866)), E: -1200}, plain(9, -2), plain(1, -1), plain(101, -3), plain(11, -2), plain(1, 0), {M: digits("1" + strings.Repeat("0", 800) + "1"), E: -801}, plain(101, -2), plain(11, -1), plain(2, 0), plain(99, -1), plain(1, 1), plain(1, 1200), {M: []uint32{1, 1}, E: 1200}, {M: full(90), E: 1200},
	}
	for i, a := range rising {
		for k, b := range rising {
			want := 0
			if i < k {
				want = -1
			}
			if i > k {
				want = 1
			}
			if got := num.Cmp(a, b); got != want {
				t.Errorf("%d, %d: %d", i, k, got)
			}
			if got := num.Same(a, b); got != (i == k) {
				t.Errorf("%d, %d the same: %v", i, k, got)
			}
		}
	}
}

// TestBadAsNought: Cmp, Same and Text take what may not be as 0.
func TestBadAsNought(t *testing.T) {
	for i, n := range bad() {
		if got := num.Text(n); got != "0" {
			t.Errorf("Text of bad %d: %s", i, got)
		}
		for _, x := range []struct {
			n    api.Num
			want int
		}{{api.Num{}, 0}, {minus(plain(70, 0)), 0}, {plain(1, -1200), -1}, {minus(plain(1, -1200)), 1}} {
			if got := num.Cmp(n, x.n); got != x.want {
				t.Errorf("Cmp of bad %d and %s: %d", i, tell(x.n), got)
			}
			if got := num.Cmp(x.n, n); got != -x.want {
				t.Errorf("Cmp of %s and bad %d: %d", tell(x.n), i, got)
			}
			if num.Same(n, x.n) != (x.want == 0) || num.Same(x.n, n) != (x.want == 0) {
				t.Errorf("Same of bad %d and %s", i, tell(x.n))
			}
		}
	}
}

func TestSame(t *testing.T) {
	numbers := good()
	for i, a := range numbers {
		for k := i % 5; k < len(numbers); k += 5 {
			if got := num.Same(a, numbers[k]); got != (i == k) {
				t.Fatalf("Same of %s and %s: %v", tell(a), tell(numbers[k]), got)
			}
		}
		same := api.Num{Neg: a.Neg, M: slices.Clone(a.M), E: a.E}
		if !num.Same(a, same) || num.Cmp(a, same) != 0 {
			t.Errorf("%s isn't itself", tell(a))
		}
	}
	if !num.Same(api.Num{}, api.Num{M: []uint32{}}) {
		t.Error("nil and an empty list are one")
	}
}

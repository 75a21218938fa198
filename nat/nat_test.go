package nat_test

import (
	"math"
	"math/big"
	"slices"
	"strconv"
	"testing"

	"erratum/nat"
)

// toBig is what a list is, by another program's naturals.
func toBig(l []uint32) *big.Int {
	b := new(big.Int)
	for i := len(l) - 1; i >= 0; i-- {
		b.Lsh(b, 32)
		b.Or(b, new(big.Int).SetUint64(uint64(l[i])))
	}
	return b
}

// limbs is a natural as a list without 0 at its top.
func limbs(b *big.Int) []uint32 {
	var l []uint32
	for b = new(big.Int).Set(b); b.Sign() > 0; b.Rsh(b, 32) {
		l = append(l, uint32(b.Uint64()))
	}
	return l
}

// edgeLists are all lists of up to most limbs that are at an edge: zeros at the top are among them.
func edgeLists(most int) [][]uint32 {
	lists := [][]uint32{{}}
	last := lists
	for range most {
		var longer [][]uint32
		for _, l := range last {
			for _, limb := range []uint32{0, 1, 0x7fffffff, 0x80000000, 0xffffffff} {
				longer = append(longer, append(slices.Clone(l), limb))
			}
		}
		lists = append(lists, longer...)
		last = longer
	}
	return lists
}

// mixedLists are lists of many lengths, always the same ones.
func mixedLists(many int) [][]uint32 {
	var lists [][]uint32
	state := uint64(88172645463325252)
	next := func() uint32 {
		state ^= state << 13
		state ^= state >> 7
		state ^= state << 17
		return uint32(state >> 20)
	}
	for i := range many {
		l := make([]uint32, int(next()%40))
		for k := range l {
			if l[k] = next(); i%3 == 0 { // many limbs of zeros or ones
				l[k] = []uint32{0, 0xffffffff, l[k]}[next()%3]
			}
		}
		lists = append(lists, l)
	}
	return lists
}

// want reports a list that isn't just the natural: a 0 at its top is a fault, too.
func want(t *testing.T, what string, got []uint32, natural *big.Int) {
	t.Helper()
	if w := limbs(natural); !slices.Equal(got, w) {
		t.Fatalf("%s: got %x, want %x", what, got, w)
	}
}

func TestNorm(t *testing.T) {
	for _, x := range []struct{ l, want []uint32 }{
		{nil, nil}, {[]uint32{}, nil}, {[]uint32{0}, nil}, {[]uint32{0, 0, 0}, nil}, {[]uint32{7}, []uint32{7}}, {[]uint32{7, 0}, []uint32{7}}, {[]uint32{0, 7}, []uint32{0, 7}}, {[]uint32{0, 7, 0, 0}, []uint32{0, 7}}, {[]uint32{1, 0, 2, 0}, []uint32{1, 0, 2}},
	} {
		if got := nat.Norm(x.l); !slices.Equal(got, x.want) {
			t.Errorf("Norm(%x): %x", x.l, got)
		}
	}
}

func TestCmp(t *testing.T) {
	for _, x := range []struct {
		a, b []uint32
		want int
	}{
		{nil, nil, 0}, {nil, []uint32{0, 0}, 0}, {nil, []uint32{1}, -1}, {[]uint32{5}, []uint32{5, 0, 0}, 0}, {[]uint32{0xffffffff}, []uint32{0, 1}, -1}, {[]uint32{9, 1}, []uint32{0, 2}, -1}, {[]uint32{1, 2}, []uint32{2, 2}, -1}, {[]uint32{0xffffffff, 0, 0}, []uint32{0, 1}, -1}, {[]uint32{0x7fffffff}, []uint32{0x80000000}, -1},
	} {
		if got := nat.Cmp(x.a, x.b); got != x.want {
			t.Errorf("Cmp(%x, %x): %d", x.a, x.b, got)
		}
		if got := nat.Cmp(x.b, x.a); got != -x.want {
			t.Errorf("Cmp(%x, %x): %d", x.b, x.a, got)
		}
	}
	lists := edgeLists(3)
	for _, a := range lists {
		for _, b := range lists {
			if got := nat.Cmp(a, b); got != toBig(a).Cmp(toBig(b)) {
				t.Fatalf("Cmp(%x, %x): %d", a, b, got)
			}
		}
	}
}

// checkSums holds Add, Sub and Mul of two lists against the other program's.
func checkSums(t *testing.T, a, b []uint32) {
	t.Helper()
	x, y := toBig(a), toBig(b)
	want(t, "Add", nat.Add(a, b), new(big.Int).Add(x, y))
	want(t, "Mul", nat.Mul(a, b), new(big.Int).Mul(x, y))
	less := new(big.Int).Sub(x, y)
	if less.Sign() < 0 {
		less.SetInt64(0)
	}
	want(t, "Sub", nat.Sub(a, b), less)
}

func TestAddSubMul(t *testing.T) {
	lists := edgeLists(3)
	for _, a := range lists {
		for _, b := range lists {
			checkSums(t, a, b)
		}
	}
	mixed := mixedLists(60)
	for _, a := range mixed {
		for _, b := range mixed {
			checkSums(t, a, b)
		}
	}
}

// checkDiv holds Div of two lists against the other program's.
func checkDiv(t *testing.T, a, b []uint32) {
	t.Helper()
	quo, rem := nat.Div(a, b)
	x, y := toBig(a), toBig(b)
	if y.Sign() == 0 {
		want(t, "quotient by 0", quo, y)
		want(t, "left by 0", rem, y)
		return
	}
	q, r := new(big.Int).QuoRem(x, y, new(big.Int))
	want(t, "quotient", quo, q)
	want(t, "left", rem, r)
}

func TestDiv(t *testing.T) {
	divisors := edgeLists(3)
	for _, a := range edgeLists(4) {
		for _, b := range divisors {
			checkDiv(t, a, b)
		}
	}
	mixed := mixedLists(90)
	for _, a := range mixed {
		for _, b := range mixed {
			checkDiv(t, a, b)
		}
	}
}

// TestDivGuess: divisors of which a guess by the highest limbs is too great by 1 and by 2.
func TestDivGuess(t *testing.T) {
	checkDiv(t, []uint32{0, 0, 0x80000000, 0x7fffffff}, []uint32{1, 0, 0x80000000})
	checkDiv(t, []uint32{3, 0, 0x80000000}, []uint32{1, 0x20000000})
	checkDiv(t, []uint32{0, 0xfffffffe, 0x80000000}, []uint32{0xffff, 0x80000000})
	checkDiv(t, []uint32{0, 0, 0x7fffffff}, []uint32{0xffffffff, 0x80000000})
	checkDiv(t, []uint32{0, 0, 0, 0x7fffffff}, []uint32{0xffffffff, 0xffffffff, 0x80000000})
}

func TestPow(t *testing.T) {
	for _, base := range []uint32{0, 1, 2, 3, 5, 10, 16, 0x7fffffff, 0x80000000, 0xffffffff} {
		for _, n := range []int{math.MinInt, -1300, -1, 0, 1, 2, 3, 7, 31, 32, 64, 1299, 1300, 1301, 99999, math.MaxInt} {
			cut := int64(min(max(n, 0), 1300))
			power := new(big.Int).Exp(new(big.Int).SetUint64(uint64(base)), big.NewInt(cut), nil)
			want(t, "Pow of "+strconv.Itoa(int(base))+" to "+strconv.Itoa(n), nat.Pow(base, n), power)
		}
	}
}

func TestBits(t *testing.T) {
	for _, x := range []struct {
		l    []uint32
		want int
	}{
		{nil, 0}, {[]uint32{0, 0}, 0}, {[]uint32{1}, 1}, {[]uint32{0, 1}, 33}, {[]uint32{0xffffffff}, 32}, {[]uint32{0x80000000, 0, 0}, 32}, {[]uint32{0, 0, 0xff}, 72},
	} {
		if got := nat.Bits(x.l); got != x.want {
			t.Errorf("Bits(%x): %d", x.l, got)
		}
	}
	for _, l := range append(edgeLists(3), mixedLists(60)...) {
		if got := nat.Bits(l); got != toBig(l).BitLen() {
			t.Errorf("Bits(%x): %d", l, got)
		}
	}
}

package pack_test

import (
	"math"
	"math/big"
	"math/rand"
	"slices"
	"strings"
	"testing"

	"erratum/api"
	"erratum/num"
	"erratum/pack"
)

// holdNumber holds Has and Encode of a number that may be against what they must answer, and Decode of that against the number.
func holdNumber(t *testing.T, n api.Num, want string) {
	t.Helper()
	if told := numberOf(n); told != want {
		t.Fatalf("another teller of %v: %x, not %x", n, told, want)
	}
	if has := pack.Has(n); has != (want != "") {
		t.Fatalf("Has(%v): %v", n, has)
	}
	wantE := api.OK
	if want == "" {
		wantE = api.Unrep
	}
	v := api.Tree{Kind: api.Number, N: n}
	b, e := pack.Encode(v)
	if string(b) != want || e != wantE {
		t.Fatalf("Encode of %v: %x, %d, not %x", n, b, e, want)
	}
	if e != api.OK {
		return
	}
	if back, e := pack.Decode(b); e != api.OK || !exact(back, v) {
		t.Fatalf("%v, decoded from %x: %v, %d", n, b, back, e)
	}
}

// P12.1
func TestNumberNamed(t *testing.T) {
	for s, want := range map[string]string{
		"0": "00", "1": "01", "10": "0a", "127": "7f", "128": "cc80", "200": "ccc8", "255": "ccff", "256": "cd0100", "1000": "cd03e8", "65535": "cdffff", "65536": "ce00010000", "4294967295": "ceffffffff", "4294967296": "cf0000000100000000", "9223372036854775807": "cf7fffffffffffffff", "9223372036854775808": "cf8000000000000000", "1e19": "cf8ac7230489e80000", "18446744073709551615": "cfffffffffffffffff", "9007199254740993": "cf0020000000000001", "18446744073709551614": "cffffffffffffffffe",
		"-1": "ff", "-10": "f6", "-31": "e1", "-32": "e0", "-33": "d0df", "-100": "d09c", "-128": "d080", "-129": "d1ff7f", "-32768": "d18000", "-32769": "d2ffff7fff", "-2147483648": "d280000000", "-2147483649": "d3ffffffff7fffffff", "-4294967296": "d3ffffffff00000000", "-4294967297": "d3fffffffeffffffff", "-9223372036854775807": "d38000000000000001", "-9223372036854775808": "d38000000000000000", "-1e18": "d3f21f494c589c0000",
		"18446744073709551616": "ca5f800000", "36893488147419103232": "ca60000000", "-18446744073709551616": "cadf800000", "-36893488147419103232": "cae0000000", "-9223373136366403584": "cadf000001", "-9223372036854777856": "cbc3e0000000000001", "18446744073709555712": "cb43f0000000000001", "1e22": "cb4480f0cf064dd592", "-1e22": "cbc480f0cf064dd592", "340282346638528859811704183484516925440": "ca7f7fffff", "340282366920938463463374607431768211456": "cb47f0000000000000", "100000000000000000000": "cb4415af1d78b58c40",
		"0.5": "ca3f000000", "-0.5": "cabf000000", "1.5": "ca3fc00000", "-2.25": "cac0100000", "0.125": "ca3e000000", "5.9604644775390625e-8": "ca33800000", "16777215.5": "cb416ffffff0000000", "16777217.5": "cb4170000018000000", "8388607.5": "ca4affffff", "4503599627370495.5": "cb432fffffffffffff", "0.100000001490116119384765625": "ca3dcccccd", "0.1000000000000000055511151231257827021181583404541015625": "cb3fb999999999999a", "-0.1000000000000000055511151231257827021181583404541015625": "cbbfb999999999999a",
		"0.1": "", "-0.1": "", "0.3": "", "2.7": "", "1e23": "", "-1e23": "", "1e30": "", "1e-1": "", "1e1200": "", "-1e1200": "", "1e-1200": "", "-1.5e-5": "", "18446744073709551617": "", "18446744073709551619": "", "-9223372036854775809": "", "-9223372036854775810": "", "-18446744073709551615": "", "-18446744073709551617": "", "9007199254740992.5": "", "4503599627370496.25": "", "340282366920938463463374607431768211457": "", "123456789012345678901234567890": "",
	} {
		holdNumber(t, parsed(s), bytesOf(want))
	}
}

// P12.1: at the edges of heads and of floats, on both sides of 0, with tens behind and ahead of the point.
func TestNumberEdges(t *testing.T) {
	for bit := range 300 {
		for off := int64(-3); off <= 3; off++ {
			x := new(big.Int).Add(power(2, bit), big.NewInt(off))
			for _, neg := range []bool{false, true} {
				for _, tens := range []int{0, 1, -1, 2, -2, 5, -5, 19, -19, 22, 23, -22, 400, -400, 1000, -1000} {
					if n, ok := num.Make(neg, limbsOf(x), tens); ok {
						holdNumber(t, n, numberOf(n))
					}
				}
			}
		}
	}
	for limbs := 1; limbs <= api.MaxLimbs; limbs++ {
		for _, limb := range []uint32{1, 0x100, 0x80000000, math.MaxUint32} {
			m := append(make([]uint32, limbs-1), limb)
			for _, low := range []uint32{0, 1, 3} {
				m[0] |= low
				for _, tens := range []int{0, -1, 7, -1000, 1000} {
					for _, neg := range []bool{false, true} {
						if n, ok := num.Make(neg, m, tens); ok {
							holdNumber(t, n, numberOf(n))
						}
					}
				}
			}
		}
	}
}

// holdFloat holds a number that is a float of 64 bits, and what is just beside it.
func holdFloat(t *testing.T, f float64) {
	t.Helper()
	n := floatNum(f)
	if want := numberOf(n); want == "" {
		t.Fatalf("no way to write %v", f)
	} else {
		holdNumber(t, n, want)
	}
	beside, ok := num.Make(n.Neg, limbsOf(new(big.Int).Add(new(big.Int).Mul(limbed(n.M), big.NewInt(10)), big.NewInt(1))), n.E-1)
	if ok {
		holdNumber(t, beside, numberOf(beside))
	}
}

// limbed is the natural that limbs are.
func limbed(m []uint32) *big.Int { return fractionOf(api.Num{M: m}).Num() }

// P12.1: floats of both widths, at their ends, and those between them.
func TestNumberFloats(t *testing.T) {
	r := rand.New(rand.NewSource(121))
	for exponent := range 255 {
		for _, fraction := range []uint32{0, 1, 1 << 22, 1<<23 - 1, r.Uint32() % (1 << 23)} {
			for _, sign := range []uint32{0, 1 << 31} {
				holdFloat(t, float64(math.Float32frombits(sign|uint32(exponent)<<23|fraction)))
			}
		}
	}
	for exponent := range 2047 {
		for _, fraction := range []uint64{0, 1, 1 << 28, 1 << 29, 1 << 51, 1<<52 - 1<<29, 1<<52 - 1, r.Uint64() % (1 << 52)} {
			holdFloat(t, math.Float64frombits(uint64(exponent)<<52|fraction|uint64(r.Intn(2))<<63))
		}
	}
	for _, f := range []float64{math.MaxFloat64, math.SmallestNonzeroFloat64, 0x1p-1022, math.MaxFloat32, math.SmallestNonzeroFloat32, 0x1p-126, 0x1p-149, 0x1p-150, 0x1.8p-149, 0x1.fffffep127, 0x1.ffffffp127, 0x1p128, 0x1p63, 0x1p64} {
		for _, f := range []float64{f, -f, math.Nextafter(f, 0), -math.Nextafter(f, 0), f / 3, f / 10} {
			holdFloat(t, f)
		}
	}
	for _, b := range []string{"ca7f800000", "cb7ff0000000000000", "ca7fc00000"} { // a head that stands for no number is had by none
		if v, e := pack.Decode([]byte(bytesOf(b))); e != api.Unsupported || v.Kind != 0 {
			t.Errorf("%s: %v, %d", b, v, e)
		}
	}
	beyond, _ := num.Make(false, limbsOf(power(2, 1024)), 0)
	holdNumber(t, beyond, "")
	under, _ := num.Make(true, limbsOf(power(5, 1075)), -1075)
	holdNumber(t, under, "")
}

// mixedNum is a number of any size.
func mixedNum(r *rand.Rand) api.Num {
	m := make([]uint32, 1+r.Intn(1+r.Intn(api.MaxLimbs)))
	for i := range m {
		m[i] = r.Uint32() >> r.Intn(32)
	}
	n, _ := num.Make(r.Intn(2) == 0, m, r.Intn(2*api.MaxExp)-api.MaxExp)
	switch r.Intn(4) {
	case 0:
		n, _ = num.Make(r.Intn(2) == 0, m[:1], r.Intn(60)-30)
	case 1:
		n, _ = num.Make(r.Intn(2) == 0, m[:min(len(m), 2)], r.Intn(4)-2)
	case 2:
		n = hadNum(r)
	}
	return n
}

// hadNum is a number of any size that there is.
func hadNum(r *rand.Rand) api.Num {
	switch r.Intn(4) {
	case 0:
		return floatNum(float64(int32(r.Uint32())>>r.Intn(32)) / float64(int(1)<<r.Intn(40)))
	case 1:
		if f := math.Float64frombits(r.Uint64()); f-f == 0 {
			return floatNum(f)
		}
	case 2:
		n, _ := num.Make(true, limbsOf(new(big.Int).SetUint64(r.Uint64()>>(1+r.Intn(63)))), 0)
		return n
	}
	n, _ := num.Make(false, limbsOf(new(big.Int).SetUint64(r.Uint64()>>r.Intn(64))), 0)
	return n
}

// P12.1, P12.3
func TestNumberMixed(t *testing.T) {
	r := rand.New(rand.NewSource(1201))
	for range 20000 {
		n := mixedNum(r)
		holdNumber(t, n, numberOf(n))
	}
}

// P12.1: what may not be a number is 0, to Has; Encode refuses it.
func TestNumberOfOthers(t *testing.T) {
	for _, n := range []api.Num{
		{E: 4}, {E: -4}, {Neg: true}, {Neg: true, E: 1}, {E: math.MinInt}, {E: math.MaxInt}, {M: []uint32{0}}, {M: []uint32{1, 0}}, {M: []uint32{10}}, {M: []uint32{1000}, E: -30}, {Neg: true, M: []uint32{20}}, {M: []uint32{3}, E: 1201}, {M: []uint32{3}, E: -1201}, {M: []uint32{3}, E: math.MinInt}, {Neg: true, M: []uint32{3}, E: math.MaxInt},
		{M: slices.Repeat([]uint32{1}, api.MaxLimbs+1)}, {M: slices.Repeat([]uint32{1}, 5000), E: -7},
	} {
		if !pack.Has(n) {
			t.Errorf("Has of a number that may not be, of %d limbs, %d: false", len(n.M), n.E)
		}
		if b, e := pack.Encode(api.Tree{Kind: api.Number, N: n}); b != nil || e != api.Arg {
			t.Errorf("Encode of a number that may not be, of %d limbs, %d: %x, %d", len(n.M), n.E, b, e)
		}
	}
	if !pack.Has(api.Num{}) || !pack.Has(api.Num{M: []uint32{}}) {
		t.Error("Has of 0: false")
	}
}

// R3: what is handed in stays.
func TestNumberMemory(t *testing.T) {
	for _, s := range []string{"7", "-7", "1.5", "0.1", "-9223372036854775808", "-1e30", "-" + strings.Repeat("9", 300) + "e-7"} {
		n := parsed(s)
		n.M = append(n.M, 77)[:len(n.M)]
		first, again := pack.Has(n), pack.Has(n)
		if first != again || !sameNum(n, parsed(s)) || n.M[:len(n.M)+1][len(n.M)] != 77 {
			t.Errorf("%s: %v, %v, %v", s, first, again, n)
		}
	}
}

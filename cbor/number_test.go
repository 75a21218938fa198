package cbor_test

import (
	"bytes"
	"math"
	"math/big"
	"math/rand"
	"slices"
	"strings"
	"testing"

	"erratum/api"
	"erratum/cbor"
	"erratum/num"
)

// holdNumber holds Number against what it must answer, and Decode of that against the number.
func holdNumber(t *testing.T, n api.Num, want string) {
	t.Helper()
	b := cbor.Number(n)
	if string(b) != want {
		t.Fatalf("Number(%v): %x, not %x", n, b, want)
	}
	if told := numberOf(n); told != want {
		t.Fatalf("another teller of %v: %x", n, told)
	}
	back, e := cbor.Decode(b)
	if e != api.OK || !exact(back, api.Tree{Kind: api.Number, N: n}) {
		t.Fatalf("%v, decoded from %x: %v, %d", n, b, back, e)
	}
}

// P10.2
func TestNumberNamed(t *testing.T) {
	for s, want := range map[string]string{
		"0": "00", "1": "01", "10": "0a", "23": "17", "24": "1818", "31": "181f", "32": "1820", "100": "1864", "255": "18ff", "256": "190100", "1000": "1903e8", "65535": "19ffff", "65536": "1a00010000", "4294967295": "1affffffff", "4294967296": "1b0000000100000000", "1e19": "1b8ac7230489e80000", "18446744073709551615": "1bffffffffffffffff",
		"-1": "20", "-10": "29", "-24": "37", "-25": "3818", "-100": "3863", "-256": "38ff", "-257": "390100", "-65536": "39ffff", "-65537": "3a00010000", "-4294967296": "3affffffff", "-4294967297": "3b0000000100000000", "-9223372036854775808": "3b7fffffffffffffff", "-18446744073709551616": "3bffffffffffffffff",
		"18446744073709551616": "fa5f800000", "36893488147419103232": "fa60000000", "1e22": "fb4480f0cf064dd592", "-36893488147419103232": "fae0000000", "340282346638528859811704183484516925440": "fa7f7fffff", "340282366920938463463374607431768211456": "fb47f0000000000000",
		"0.5": "f93800", "-0.5": "f9b800", "1.5": "f93e00", "-4.1e0": "c4 82 20 38 28", "5.960464477539063e-8": "c4 82 36 1b 00 15 2d 02 c7 e1 4a f7", "5.9604644775390625e-8": "f90001", "0.00006103515625": "f90400", "1023.5": "f963ff", "2047.5": "fa44fff000", "2048.5": "fa45000800", "65504.5": "fa477fe080", "0.0999755859375": "f92e66", "-0.000000059604644775390625": "f98001", "2.98023223876953125e-8": "fa33000000", "0.100000001490116119384765625": "fa3dcccccd", "16777216.5": "fb4170000008000000", "0.1000000000000000055511151231257827021181583404541015625": "fb3fb999999999999a", "-1.125": "f9bc80",
		"0.1": "c4 82 20 01", "-0.1": "c4 82 20 20", "2.7": "c4 82 20 18 1b", "-2.5e-3": "c4 82 23 38 18", "1e30": "c4 82 18 1e 01", "-1e300": "c4 82 19 01 2c 20", "1e1200": "c4 82 19 04 b0 01", "1e-1200": "c4 82 39 04 af 01", "-1e-24": "c4 82 37 20", "1e-25": "c4 82 38 18 01", "1e23": "c4 82 17 01", "1e24": "c4 82 18 18 01",
		"18446744073709551617": "c4 82 00 c2 49 01 00 00 00 00 00 00 00 01", "-18446744073709551617": "c4 82 00 c3 49 01 00 00 00 00 00 00 00 00", "1844674407370955161.5": "c4 82 20 1b ff ff ff ff ff ff ff ff", "1844674407370955161.7": "c4 82 20 c2 49 01 00 00 00 00 00 00 00 01", "-1844674407370955161.6": "c4 82 20 3b ff ff ff ff ff ff ff ff", "-1844674407370955161.7": "c4 82 20 c3 49 01 00 00 00 00 00 00 00 00", "1844674407370955161.6": "c4 82 20 c2 49 01 00 00 00 00 00 00 00 00", "184467440737095516170": "c4 82 01 c2 49 01 00 00 00 00 00 00 00 01",
		"340282366920938463463374607431768211457": "c4 82 00 c2 51 01 00 00 00 00 00 00 00 00 00 00 00 00 00 00 00 01", "-340282366920938463463374607431768211457": "c4 82 00 c3 51 01 00 00 00 00 00 00 00 00 00 00 00 00 00 00 00 00", "-340282366920938463463374607431768211457e-1": "c4 82 20 c3 51 01 00 00 00 00 00 00 00 00 00 00 00 00 00 00 00 00",
	} {
		holdNumber(t, parsed(s), bytesOf(want))
	}
}

// P10.2: at the edges of heads, on both sides of 0, with tens behind and ahead of the point.
func TestNumberEdges(t *testing.T) {
	for bit := range 300 {
		for off := int64(-3); off <= 3; off++ {
			x := new(big.Int).Add(power(2, bit), big.NewInt(off))
			for _, neg := range []bool{false, true} {
				for _, tens := range []int{0, 1, -1, 2, -2, 5, -5, 19, -19, 23, 24, 25, -23, -24, -25, -26, 255, 256, 257, -256, -257, 1000, -1000} {
					n, ok := num.Make(neg, limbsOf(x), tens)
					if ok {
						holdNumber(t, n, numberOf(n))
					}
				}
			}
		}
	}
	for limbs := 1; limbs <= api.MaxLimbs; limbs++ {
		for _, limb := range []uint32{1, 0x80, 0x100, 0xff00, 0x10000, 0x1000000, 0xff000000, math.MaxUint32} {
			m := append(make([]uint32, limbs-1), limb)
			for _, low := range []uint32{0, 1, 3} {
				m[0] |= low
				for _, tens := range []int{0, -1, 7, -1000, 1000} {
					for _, neg := range []bool{false, true} {
						if n, ok := num.Make(neg, m, tens); ok {
							holdNumber(t, n, numberOf(n))
						}
					}
				}
			}
		}
	}
}

// floatNum is the number that a float is.
func floatNum(t *testing.T, f float64) api.Num {
	t.Helper()
	v, e := floatAs(f)
	if e != api.OK {
		t.Fatal(f, e)
	}
	return v.N
}

// P10.2: floats of each width, at their ends, and those between them.
func TestNumberFloats(t *testing.T) {
	for bits := range 1 << 16 {
		if f := half(uint16(bits)); f-f == 0 {
			n := floatNum(t, f)
			want := numberOf(n)
			if f != math.Trunc(f) && want != string([]byte{0xf9, byte(bits >> 8), byte(bits)}) {
				t.Fatalf("%x: %x", bits, want)
			}
			holdNumber(t, n, want)
		}
	}
	r := rand.New(rand.NewSource(102))
	for exponent := range 255 {
		for _, fraction := range []uint32{0, 1, 1 << 12, 1 << 13, 1 << 14, 1 << 22, 1<<23 - 1<<13, 1<<23 - 1, r.Uint32() % (1 << 23)} {
			for _, sign := range []uint32{0, 1 << 31} {
				n := floatNum(t, float64(math.Float32frombits(sign|uint32(exponent)<<23|fraction)))
				holdNumber(t, n, numberOf(n))
			}
		}
	}
	for exponent := range 2047 {
		for _, fraction := range []uint64{0, 1, 1 << 28, 1 << 29, 1 << 41, 1 << 42, 1<<52 - 1<<29, 1<<52 - 1, r.Uint64() % (1 << 52)} {
			n := floatNum(t, math.Float64frombits(uint64(exponent)<<52|fraction|uint64(r.Intn(2))<<63))
			holdNumber(t, n, numberOf(n))
		}
	}
	for _, f := range []float64{math.MaxFloat64, math.SmallestNonzeroFloat64, 0x1p-1022, math.MaxFloat32, math.SmallestNonzeroFloat32, 0x1p-126, 65504, 65519.5, 65520, 65536.5, 0x1p-24, 0x1p-25, 0x1p-14, 0x1.8p-24, 0x1.ffcp15, 0x1.ffep15, 0x1.fffffep127, 0x1p128} {
		for _, f := range []float64{f, -f, math.Nextafter(f, 0), f / 3, f / 10} {
			n := floatNum(t, f)
			holdNumber(t, n, numberOf(n))
		}
	}
}

// mixedNum is a number of any size.
func mixedNum(r *rand.Rand) api.Num {
	m := make([]uint32, 1+r.Intn(1+r.Intn(api.MaxLimbs)))
	for i := range m {
		m[i] = r.Uint32() >> r.Intn(32)
	}
	n, _ := num.Make(r.Intn(2) == 0, m, r.Intn(2*api.MaxExp)-api.MaxExp)
	switch r.Intn(3) {
	case 0:
		n, _ = num.Make(r.Intn(2) == 0, m[:1], r.Intn(60)-30)
	case 1:
		n, _ = num.Make(r.Intn(2) == 0, m[:min(len(m), 3)], r.Intn(4)-2)
	}
	return n
}

// P10.2, P10.4
func TestNumberMixed(t *testing.T) {
	r := rand.New(rand.NewSource(1024))
	for range 20000 {
		n := mixedNum(r)
		holdNumber(t, n, numberOf(n))
	}
}

// P10.2: what may not be a number is 0.
func TestNumberOfOthers(t *testing.T) {
	for _, n := range []api.Num{
		{E: 4}, {E: -4}, {Neg: true}, {Neg: true, E: 1}, {E: math.MinInt}, {E: math.MaxInt}, {M: []uint32{0}}, {M: []uint32{1, 0}}, {M: []uint32{10}}, {M: []uint32{1000}, E: -3}, {Neg: true, M: []uint32{20}}, {M: []uint32{3}, E: 1201}, {M: []uint32{3}, E: -1201}, {M: []uint32{3}, E: math.MinInt}, {Neg: true, M: []uint32{3}, E: math.MaxInt},
		{M: slices.Repeat([]uint32{1}, api.MaxLimbs+1)}, {M: slices.Repeat([]uint32{1}, 5000), E: -7},
	} {
		if b := cbor.Number(n); string(b) != "\x00" {
			t.Errorf("Number of a number that may not be, of %d limbs, %d: %x", len(n.M), n.E, b)
		}
	}
	if b := cbor.Number(api.Num{M: []uint32{}}); string(b) != "\x00" {
		t.Errorf("Number of an empty list: %x", b)
	}
}

// R3: what is handed in stays, and answers share nothing.
func TestNumberMemory(t *testing.T) {
	for _, s := range []string{"7", "-7", "1.5", "0.1", "-18446744073709551617", "-1e30", "-" + strings.Repeat("9", 300) + "e-7"} {
		n := parsed(s)
		n.M = append(n.M, 77)[:len(n.M)]
		first := cbor.Number(n)
		kept := bytes.Clone(first)
		second := cbor.Number(n)
		for i := range second[:cap(second)] {
			second[:cap(second)][i] = 0xee
		}
		if !bytes.Equal(first, kept) || !sameNum(n, parsed(s)) || n.M[:len(n.M)+1][len(n.M)] != 77 {
			t.Errorf("%s: %x, %v", s, first, n)
		}
	}
}

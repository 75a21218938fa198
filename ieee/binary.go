package ieee

import (
	"math/bits"

	"erratum/api"
	"erratum/nat"
	"erratum/num"
)

// binary is a number that is a natural of one word, times so many twos; below 0 with a sign.
type binary struct {
	neg  bool
	size uint64
	twos int
}

// decimal is the number that b is: with twos below 0, each of them is a five and a ten less.
func decimal(b binary) (api.Num, bool) {
	size := []uint32{uint32(b.size), uint32(b.size >> 32)}
	if b.twos < 0 {
		return num.Make(b.neg, nat.Mul(size, nat.Pow(5, -b.twos)), b.twos)
	}
	return num.Make(b.neg, nat.Mul(size, nat.Pow(2, b.twos)), 0)
}

// binaryOf is a number that may be, and is not 0, by an odd natural; false, if it is no natural times twos, or if that has no room in a word.
func binaryOf(n api.Num) (binary, bool) {
	m, ok := timesFives(n.M, n.E)
	if !ok {
		return binary{}, false
	}
	twos := zeroBits(m)
	if nat.Bits(m)-twos > 64 {
		return binary{}, false
	}
	return binary{neg: n.Neg, size: wordFrom(m, twos), twos: n.E + twos}, true
}

// timesFives is m times 5 to the e; false, if that is not whole.
func timesFives(m []uint32, e int) ([]uint32, bool) {
	if e >= 0 {
		return nat.Mul(m, nat.Pow(5, e)), true
	}
	quo, rem := nat.Div(m, nat.Pow(5, -e))
	return quo, len(rem) == 0
}

// zeroBits is how many bits below its lowest 1 a natural has that is not 0.
func zeroBits(m []uint32) int {
	limb := 0
	for m[limb] == 0 {
		limb++
	}
	return 32*limb + bits.TrailingZeros32(m[limb])
}

// wordFrom is a natural's bits from one on, where no more than a word's are there.
func wordFrom(m []uint32, from int) (word uint64) {
	for i := from / 32; i < len(m); i++ {
		if at := 32*i - from; at < 0 {
			word |= uint64(m[i]) >> -at
		} else {
			word |= uint64(m[i]) << at
		}
	}
	return word
}

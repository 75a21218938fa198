// Package nat: naturals, by limbs of 32 bits, the lowest first.
package nat

import (
	"math/bits"
)

// maxPower is the highest exponent there is: Pow cuts what is above to it.
const maxPower = 1300

// Norm is a list's natural.
func Norm(l []uint32) []uint32 {
	used := cut(l)
	out := make([]uint32, len(used))
	copy(out, used)
	return out
}

// Cmp compares two.
func Cmp(a, b []uint32) int {
	a, b = cut(a), cut(b)
	if len(a) != len(b) {
		return sign(len(a) < len(b))
	}
	for i := len(a) - 1; i >= 0; i-- {
		if a[i] != b[i] {
			return sign(a[i] < b[i])
		}
	}
	return 0
}

// Add is a sum.
func Add(a, b []uint32) []uint32 {
	a, b = cut(a), cut(b)
	if len(a) < len(b) {
		a, b = b, a
	}
	sum := make([]uint32, len(a)+1)
	copy(sum, a)
	addTo(sum, b)
	return cut(sum)
}

// Sub is a difference.
func Sub(a, b []uint32) []uint32 {
	if Cmp(a, b) <= 0 {
		return nil
	}
	less := Norm(a)
	takeTimes(less, cut(b), 1)
	return cut(less)
}

// Mul is a product.
func Mul(a, b []uint32) []uint32 {
	a, b = cut(a), cut(b)
	product := make([]uint32, len(a)+len(b))
	for i, limb := range a {
		addTimes(product[i:i+len(b)+1], b, limb)
	}
	return cut(product)
}

// Pow is a power.
func Pow(base uint32, n int) []uint32 {
	n = min(max(n, 0), maxPower)
	power := []uint32{1}
	for i := bits.Len(uint(n)) - 1; i >= 0; i-- {
		power = Mul(power, power)
		if n>>i&1 == 1 {
			power = timesPlus(power, base, 0)
		}
	}
	return power
}

// Bits is how many bits a natural has.
func Bits(a []uint32) int {
	a = cut(a)
	if len(a) == 0 {
		return 0
	}
	top := len(a) - 1
	return 32*top + bits.Len32(a[top])
}

// cut is the piece of l below the zeros at its top. It shares l's memory, so only of a list that was made in here may it be answered.
func cut(l []uint32) []uint32 {
	n := len(l)
	for n > 0 && l[n-1] == 0 {
		n--
	}
	return l[:n]
}

// sign is what Cmp says of two that differ.
func sign(below bool) int {
	if below {
		return -1
	}
	return 1
}

// addTo adds l to a list that is at least as long, and tells what is carried out of its top.
func addTo(into, l []uint32) (carry uint32) {
	for i, limb := range l {
		into[i], carry = bits.Add32(into[i], limb, carry)
	}
	for i := len(l); i < len(into) && carry > 0; i++ {
		into[i], carry = bits.Add32(into[i], 0, carry)
	}
	return carry
}

// addTimes adds l times factor to a list that has one limb more than l, and 0 at its top: so nothing is carried out of it.
func addTimes(into, l []uint32, factor uint32) {
	var carry uint64
	for i, limb := range l {
		wide := uint64(limb)*uint64(factor) + uint64(into[i]) + carry
		into[i] = uint32(wide)
		carry = wide >> 32
	}
	into[len(l)] = uint32(carry)
}

// takeTimes takes l times factor away from a list that is at least as long, and tells whether that was too much: then the list has wrapped round, and giving back with addTo carries out of its top.
func takeTimes(from, l []uint32, factor uint32) bool {
	var carry uint64
	var borrow uint32
	for i, limb := range l {
		wide := uint64(limb)*uint64(factor) + carry
		carry = wide >> 32
		from[i], borrow = bits.Sub32(from[i], uint32(wide), borrow)
	}
	for i := len(l); i < len(from) && carry+uint64(borrow) > 0; i++ {
		from[i], borrow = bits.Sub32(from[i], uint32(carry), borrow)
		carry = 0
	}
	return carry+uint64(borrow) > 0
}

// timesPlus is l times factor, and plus more. l is made into it.
func timesPlus(l []uint32, factor, plus uint32) []uint32 {
	carry := uint64(plus)
	for i, limb := range l {
		wide := uint64(limb)*uint64(factor) + carry
		l[i] = uint32(wide)
		carry = wide >> 32
	}
	if carry > 0 {
		l = append(l, uint32(carry))
	}
	return cut(l)
}

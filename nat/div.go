package nat

import (
	"math"
	"math/bits"
)

// Div is a quotient, and what is left.
func Div(a, b []uint32) (quo, rem []uint32) {
	a, b = cut(a), cut(b)
	switch {
	case len(b) == 0:
		return nil, nil
	case Cmp(a, b) < 0:
		return nil, Norm(a)
	}
	return divide(a, b)
}

// divide is the long division of a by b, where b is not 0 and not above a. Both are shifted till b's highest bit is set: so a guess by the highest limbs alone is never too small, and at most 2 too great.
func divide(a, b []uint32) (quo, rem []uint32) {
	shift := bits.LeadingZeros32(b[len(b)-1])
	left := shiftUp(a, shift)
	b = cut(shiftUp(b, shift))
	quo = make([]uint32, len(left)-len(b))
place:
	for i := len(quo) - 1; i >= 0; i-- {
		window := left[i : i+len(b)+1]
		quo[i] = guess(window, b)
		if !takeTimes(window, b, quo[i]) {
			continue place
		}
		for {
			quo[i]--
			if addTo(window, b) > 0 { // what is carried out makes up for what was too much
				continue place
			}
		}
	}
	return cut(quo), shiftDown(left[:len(b)], shift)
}

// guess is a quotient of one limb, by the highest two limbs of what is divided and the highest one of b.
func guess(window, b []uint32) uint32 {
	n := len(b)
	high := uint64(window[n])<<32 | uint64(window[n-1])
	return uint32(min(high/uint64(b[n-1]), math.MaxUint32))
}

// shiftUp is l with its bits moved up by less than a limb, in one limb more.
func shiftUp(l []uint32, by int) []uint32 {
	out := make([]uint32, len(l)+1)
	for i, limb := range l {
		wide := uint64(limb) << by
		out[i] |= uint32(wide)
		out[i+1] = uint32(wide >> 32)
	}
	return out
}

// shiftDown is l's natural with its bits moved down by less than a limb.
func shiftDown(l []uint32, by int) []uint32 {
	out := make([]uint32, len(l))
	var above uint32
	for i := len(l) - 1; i >= 0; i-- {
		wide := uint64(above)<<32 | uint64(l[i])
		out[i] = uint32(wide >> by)
		above = l[i]
	}
	return cut(out)
}

// shrink is l by one limb that is not 0, and what is left. l is made into the quotient.
func shrink(l []uint32, by uint32) (quo []uint32, rem uint32) {
	for i := len(l) - 1; i >= 0; i-- {
		wide := uint64(rem)<<32 | uint64(l[i])
		l[i] = uint32(wide / uint64(by))
		rem = uint32(wide % uint64(by))
	}
	return cut(l), rem
}

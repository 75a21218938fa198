package ieee

import (
	"math/bits"
)

// layout is how many bits of an exponent and of a fraction a float has.
type layout struct {
	exponent int
	fraction int
}

// layoutOf is a width's layout; false, if no float has that width.
func layoutOf(width int) (layout, bool) {
	switch width {
	case 16:
		return layout{exponent: 5, fraction: 10}, true
	case 32:
		return layout{exponent: 8, fraction: 23}, true
	case 64:
		return layout{exponent: 11, fraction: 52}, true
	}
	return layout{}, false
}

// parts are what a float's bits are made of, each as the bits have it.
type parts struct {
	neg      bool
	exponent int
	fraction uint64
}

// split takes a float's bits to their parts. What stands above its width falls away.
func (l layout) split(word uint64) parts {
	return parts{
		neg:      word>>(l.exponent+l.fraction)&1 == 1,
		exponent: int(word >> l.fraction & (1<<l.exponent - 1)),
		fraction: word & (1<<l.fraction - 1),
	}
}

// highest is the exponent of what is no number, as the bits have it.
func (l layout) highest() int {
	return 1<<l.exponent - 1
}

// bias is how far above the exponent it stands in the bits: it is the greatest exponent, too.
func (l layout) bias() int {
	return 1<<(l.exponent-1) - 1
}

// binary is what the parts of a number are.
func (l layout) binary(p parts) binary {
	if p.exponent == 0 { // a float below the ordinary ones has the least one's exponent, and no 1 ahead of its fraction
		return binary{neg: p.neg, size: p.fraction, twos: l.leastPlace()}
	}
	return binary{neg: p.neg, size: p.fraction | 1<<l.fraction, twos: l.leastPlace() + p.exponent - 1}
}

// leastPlace is how many twos the lowest bit of the least floats stands for.
func (l layout) leastPlace() int {
	return 1 - l.bias() - l.fraction
}

// join is the bits of a number that is not 0; false, if it is too great, or has a bit below the lowest of its float.
func (l layout) join(b binary) (word uint64, ok bool) {
	top := b.twos + bits.Len64(b.size) - 1
	place := max(top-l.fraction, l.leastPlace())
	if top > l.bias() || b.twos < place {
		return 0, false
	}
	word = b.size << (b.twos - place)
	word += uint64(place-l.leastPlace()) << l.fraction // the 1 ahead of the fraction, where there is one, is one more of the exponent
	if b.neg {
		word |= 1 << (l.exponent + l.fraction)
	}
	return word, true
}

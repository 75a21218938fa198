package pack

import (
	"erratum/api"
	"erratum/ieee"
	"erratum/mhead"
	"erratum/nat"
	"erratum/num"
)

const limbBits = 32

// Widths of floats.
const (
	halfWidth  = 32
	floatWidth = 64
)

// Has tells whether there is such a number.
func Has(n api.Num) bool {
	_, _, ok := wordOf(n)
	return ok
}

// wordOf is the kind of head that a number has, and the word that stands in it; false, if there is none.
func wordOf(n api.Num) (kind int, word uint64, ok bool) {
	if kind, word, ok = wholeOf(n); ok {
		return kind, word, true
	}
	if word, ok = ieee.To(halfWidth, n); ok {
		return mhead.Half, word, true
	}
	if word, ok = ieee.To(floatWidth, n); ok {
		return mhead.Float, word, true
	}
	return 0, 0, false
}

// wholeOf is wordOf of a whole number that has a head of its own, but for floats.
func wholeOf(n api.Num) (kind int, word uint64, ok bool) {
	neg, m, ok := num.Int(n)
	switch {
	case !ok:
		return 0, 0, false
	case !neg && nat.Bits(m) <= 64:
		return mhead.Uint, low(m), true
	case neg && nat.Bits(nat.Sub(m, []uint32{1})) <= 63: // one less, as below 0 there is one more than above it
		return mhead.Int, -low(m), true
	}
	return 0, 0, false
}

// low is a natural's lowest two limbs as one word.
func low(m []uint32) (word uint64) {
	for i, limb := range m[:min(len(m), 2)] {
		word |= uint64(limb) << (limbBits * i)
	}
	return word
}

// signed is the whole number that 64 bits of a sign are.
func signed(word uint64) api.Tree {
	if int64(word) < 0 {
		return whole(true, -word) // wraps round to its size, that of the least one, too
	}
	return whole(false, word)
}

// whole is a whole number by its sign and size. A word has room in any number.
func whole(neg bool, size uint64) api.Tree {
	n, _ := num.Make(neg, []uint32{uint32(size), uint32(size >> limbBits)}, 0)
	return api.Tree{Kind: api.Number, N: n}
}

// float is the number that a float is. It throws Unsupported, where that is an infinity or none.
func float(width int, bits uint64) api.Tree {
	n, ok := ieee.Exact(width, bits)
	if !ok {
		panic(api.Unsupported)
	}
	return api.Tree{Kind: api.Number, N: n}
}

package cbor

import (
	"erratum/api"
	"erratum/chead"
	"erratum/ieee"
	"erratum/nat"
	"erratum/num"
)

// Number is a number as CBOR.
func Number(n api.Num) []byte {
	if neg, m, ok := num.Int(n); ok && integerOf(neg, m).short() { // what may not be a number is 0 to Int, so it ends here
		return integerOf(neg, m).bytes()
	}
	if width, bits, ok := ieee.Shortest(n); ok {
		return float(width, bits)
	}
	b := chead.Put(nil, majorTag, tagDecimal)
	b = chead.Put(b, majorArray, 2)
	b = append(b, integerOf(n.E < 0, []uint32{uint32(max(n.E, -n.E))}).bytes()...)
	return append(b, integerOf(n.Neg, n.M).bytes()...)
}

// float is a float of that width. It has all its bytes, where chead would leave out zeros.
func float(width int, bits uint64) []byte {
	info := infoFloat
	for w := leastWidth; w < width; w *= 2 {
		info++
	}
	b := []byte{byte(majorSimple<<infoBits | info)}
	for at := width - 8; at >= 0; at -= 8 {
		b = append(b, byte(bits>>at))
	}
	return b
}

// integer is a whole number as CBOR tells it: by a natural, or where it is below 0 by the one that -1 less it is.
type integer struct {
	below bool
	told  []uint32
}

// integerOf is a whole number by its sign and natural. It may share that one's memory.
func integerOf(neg bool, m []uint32) integer {
	if neg {
		return integer{below: true, told: nat.Sub(m, []uint32{1})}
	}
	return integer{told: m}
}

// size is a whole number's natural, beside its sign. It may share i's memory.
func (i integer) size() []uint32 {
	if i.below {
		return nat.Add(i.told, []uint32{1})
	}
	return i.told
}

// short tells whether a whole number has room in a head.
func (i integer) short() bool {
	return nat.Bits(i.told) <= 64
}

// bytes are a whole number: by a head, or where that has no room by a tag and bytes.
func (i integer) bytes() []byte {
	major, tag := majorNatural, uint64(tagNatural)
	if i.below {
		major, tag = majorBelow, tagBelow
	}
	b := bytesOf(i.told)
	if i.short() {
		return chead.Put(nil, major, wordOf(b))
	}
	head := chead.Put(chead.Put(nil, majorTag, tag), majorBytes, uint64(len(b)))
	return append(head, b...)
}

// A limb's bytes and bits.
const (
	limbBytes = 4
	limbBits  = 32
)

// bytesOf are a natural's bytes, the highest first, without a 0 at the beginning.
func bytesOf(m []uint32) []byte {
	b := make([]byte, (nat.Bits(m)+7)/8)
	for i := range b {
		b[len(b)-1-i] = byte(m[i/limbBytes] >> (8 * (i % limbBytes)))
	}
	return b
}

// naturalOf is the natural that bytes are, the highest first.
func naturalOf(b string) []uint32 {
	m := make([]uint32, (len(b)+limbBytes-1)/limbBytes)
	for i := range len(b) {
		m[i/limbBytes] |= uint32(b[len(b)-1-i]) << (8 * (i % limbBytes))
	}
	return m
}

// wordOf is the number that a word's bytes are at most, the highest first.
func wordOf(b []byte) (word uint64) {
	for _, one := range b {
		word = word<<8 | uint64(one)
	}
	return word
}

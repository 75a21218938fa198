package nat

import (
	"bytes"
	"slices"
)

// maxDigits is how many digits Parse takes.
const maxDigits = 2000

// Digits go in and out by chunks: chunk is the highest power of ten that a limb holds.
const (
	chunk       = 1000000000
	chunkDigits = 9
)

// Digits are a natural's decimal digits.
func Digits(a []uint32) string {
	left := Norm(a)
	if len(left) == 0 {
		return "0"
	}
	var out []byte // the lowest digit first
	for len(left) > 0 {
		var rem uint32
		left, rem = shrink(left, chunk)
		for range chunkDigits {
			out = append(out, '0'+byte(rem%10))
			rem /= 10
		}
	}
	out = bytes.TrimRight(out, "0")
	slices.Reverse(out)
	return string(out)
}

// Parse is the natural of digits.
func Parse(s string) ([]uint32, bool) {
	if s == "" || len(s) > maxDigits {
		return nil, false
	}
	var l []uint32
	for len(s) > 0 {
		n := min(len(s), chunkDigits)
		value, ok := short(s[:n])
		if !ok {
			return nil, false
		}
		l = timesPlus(l, tens(n), value)
		s = s[n:]
	}
	return l, true
}

// Trim is a natural without the tens that divide it, and how many they were.
func Trim(a []uint32) ([]uint32, int) {
	left := Norm(a)
	if len(left) == 0 {
		return nil, 0
	}
	for count := 0; ; count += chunkDigits {
		quo, rem := shrink(Norm(left), chunk)
		if rem > 0 { // then as many tens divide what is left as divide rem
			last := zeros(rem)
			quo, _ = shrink(left, tens(last))
			return quo, count + last
		}
		left = quo
	}
}

// short is the number of at most chunkDigits digits; false, if another byte is among them.
func short(s string) (value uint32, ok bool) {
	for i := range len(s) {
		if s[i] < '0' || s[i] > '9' {
			return 0, false
		}
		value = 10*value + uint32(s[i]-'0')
	}
	return value, true
}

// tens is 10 to the n, of at most chunkDigits.
func tens(n int) uint32 {
	power := uint32(1)
	for range n {
		power *= 10
	}
	return power
}

// zeros is how many tens divide a number that is not 0.
func zeros(v uint32) int {
	n := 0
	for v%10 == 0 {
		v /= 10
		n++
	}
	return n
}

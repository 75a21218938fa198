package num

import (
	"strconv"
	"strings"

	"erratum/api"
	"erratum/nat"
)

// Where the point stands, counted from ahead of the first digit, in a text without an exponent.
const (
	leastPlace    = -5
	greatestPlace = 21
)

// maxBytes is how many bytes Parse takes, maxExponentDigits how many digits of an exponent, zeros ahead of them not counted.
const (
	maxBytes          = 2000
	maxExponentDigits = 6
)

// Text is a number's text.
func Text(n api.Num) string {
	n = orZero(n)
	switch {
	case len(n.M) == 0:
		return "0"
	case n.Neg:
		return "-" + sizeText(nat.Digits(n.M), n.E)
	}
	return sizeText(nat.Digits(n.M), n.E)
}

// sizeText is the text of digits with e tens.
func sizeText(digits string, e int) string {
	place := len(digits) + e
	switch {
	case place < leastPlace || place > greatestPlace:
		return exponentText(digits, place-1)
	case place <= 0:
		return "0." + strings.Repeat("0", -place) + digits
	case e < 0:
		return digits[:place] + "." + digits[place:]
	}
	return digits + strings.Repeat("0", e)
}

// exponentText is the text of digits with the point behind the first one, and an exponent that is not 0.
func exponentText(digits string, exponent int) string {
	text := digits[:1]
	if len(digits) > 1 {
		text += "." + digits[1:]
	}
	if exponent < 0 {
		return text + "e-" + strconv.Itoa(-exponent)
	}
	return text + "e+" + strconv.Itoa(exponent)
}

// Parse is the number of a text.
func Parse(s string) (n api.Num, e api.Errno) {
	defer func() {
		if thrown := recover(); thrown != nil {
			n, e = api.Num{}, thrown.(api.Errno)
		}
	}()
	if len(s) > maxBytes {
		panic(api.Limit)
	}
	return read(s).number(), api.OK
}

// parts are what a number's text is made of.
type parts struct {
	neg      bool
	whole    string
	fraction string
	down     bool // the exponent is below 0
	exponent string
}

// read takes a text to its parts. It throws Malformed.
func read(s string) parts {
	var p parts
	r := reader{left: s}
	p.neg = r.take('-')
	p.whole = r.digits()
	if len(p.whole) > 1 && p.whole[0] == '0' {
		panic(api.Malformed)
	}
	if r.take('.') {
		p.fraction = r.digits()
	}
	if r.take('e') || r.take('E') {
		if p.down = r.take('-'); !p.down {
			r.take('+')
		}
		p.exponent = r.digits()
	}
	if r.left != "" {
		panic(api.Malformed)
	}
	return p
}

// number is the number that the parts make. It throws Limit.
func (p parts) number() api.Num {
	m, _ := nat.Parse(p.whole + p.fraction)
	if len(m) == 0 { // asked ahead of the exponent, which may be any then
		return api.Num{}
	}
	n, ok := Make(p.neg, m, p.tens()-len(p.fraction))
	if !ok {
		panic(api.Limit)
	}
	return n
}

// tens is the exponent with its sign. It throws Limit.
func (p parts) tens() int {
	digits := strings.TrimLeft(p.exponent, "0")
	if len(digits) > maxExponentDigits {
		panic(api.Limit)
	}
	value := 0
	for i := range len(digits) {
		value = 10*value + int(digits[i]-'0')
	}
	if p.down {
		return -value
	}
	return value
}

// reader is what is left of a text that is read from the front on.
type reader struct {
	left string
}

// take takes a byte, if it is next.
func (r *reader) take(c byte) bool {
	if r.left == "" || r.left[0] != c {
		return false
	}
	r.left = r.left[1:]
	return true
}

// digits takes all digits that are next. It throws Malformed, if there are none.
func (r *reader) digits() string {
	n := 0
next:
	for n < len(r.left) {
		switch r.left[n] {
		case '0', '1', '2', '3', '4', '5', '6', '7', '8', '9':
			n++
		default:
			break next
		}
	}
	if n == 0 {
		panic(api.Malformed)
	}
	digits := r.left[:n]
	r.left = r.left[n:]
	return digits
}

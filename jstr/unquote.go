package jstr

import (
	"strings"

	"erratum/api"
	"erratum/utf"
)

// A code point beyond 16 bits is a pair of halves: one from firstHigh on, ahead of firstLow, and one from there to lastLow.
const (
	firstHigh = 0xd800
	firstLow  = 0xdc00
	lastLow   = 0xdfff
	firstPair = 0x10000
	halfBits  = 10
)

// Unquote is the text that begins at a place, and the place behind it.
func Unquote(s string, at int) (t string, next int, e api.Errno) {
	defer func() {
		if thrown := recover(); thrown != nil {
			t, next, e = "", 0, thrown.(api.Errno)
		}
	}()
	r := reader{s: s, at: at}
	t = r.quoted()
	return t, r.at, api.OK
}

// reader is a text that is read, and the place of what is next in it.
type reader struct {
	s  string
	at int
}

// take takes the byte that is next. It throws Malformed, if there is none.
func (r *reader) take() byte {
	if r.at < 0 || r.at >= len(r.s) {
		panic(api.Malformed)
	}
	c := r.s[r.at]
	r.at++
	return c
}

// must takes the byte c. It throws Malformed, if something else is next.
func (r *reader) must(c byte) {
	if r.take() != c {
		panic(api.Malformed)
	}
}

// quoted takes a text in quote signs. It throws Malformed.
func (r *reader) quoted() string {
	var b strings.Builder
	r.must('"')
	for {
		b.WriteString(r.plain())
		switch r.take() {
		case '"':
			return b.String()
		case '\\':
			b.WriteString(r.escaped())
		default: // a byte below 32, which must not stand there itself
			panic(api.Malformed)
		}
	}
}

// plain takes what stands for itself. It throws Malformed, if that is no UTF-8.
func (r *reader) plain() string {
	n := plainBytes(r.s[r.at:])
	run := r.s[r.at : r.at+n]
	if !utf.Valid(run) { // what ends a run is ASCII: no code point goes on beyond it
		panic(api.Malformed)
	}
	r.at += n
	return run
}

// escaped takes what is behind `\`, and answers what it stands for. It throws Malformed.
func (r *reader) escaped() string {
	c := r.take()
	switch c {
	case 'u':
		return utf.Put(r.codePoint())
	case '/': // quoted as it is, so letters have it not
		return "/"
	}
	i := strings.IndexByte(letters, c)
	if i < 0 {
		panic(api.Malformed)
	}
	return meant[i : i+1]
}

// codePoint takes the digits of a code point, of a pair both halves. It throws Malformed.
func (r *reader) codePoint() rune {
	high := r.half()
	if high < firstHigh || high > lastLow {
		return high
	}
	r.must('\\')
	r.must('u')
	low := r.half()
	if high >= firstLow || low < firstLow || low > lastLow {
		panic(api.Malformed)
	}
	return firstPair + (high-firstHigh)<<halfBits + (low - firstLow)
}

// half takes four digits of sixteen. It throws Malformed.
func (r *reader) half() rune {
	value := rune(0)
	for range 4 {
		value = value<<4 | digit(r.take())
	}
	return value
}

// digit is the value of a digit of sixteen. It throws Malformed.
func digit(c byte) rune {
	switch {
	case 'A' <= c && c <= 'F':
		c += 'a' - 'A'
		fallthrough
	case 'a' <= c && c <= 'f':
		return rune(c-'a') + 10
	case '0' <= c && c <= '9':
		return rune(c - '0')
	}
	panic(api.Malformed)
}

package utf_test

import (
	"math"
	"slices"
	"strings"
	"testing"

	"erratum/utf"
)

// edgeBytes are bytes at the ends of what may stand first or behind.
var edgeBytes = []byte{0x00, 'a', 0x7f, 0x80, 0x8f, 0x90, 0x9f, 0xa0, 0xbf, 0xc0, 0xc1, 0xc2, 0xdf, 0xe0, 0xe1, 0xec, 0xed, 0xee, 0xef, 0xf0, 0xf1, 0xf3, 0xf4, 0xf5, 0xff}

// notRunes are numbers that are no code points.
var notRunes = []rune{-1, -2, -0x10000, math.MinInt32, 0xd800, 0xd801, 0xdbff, 0xdc00, 0xdfff, 0x110000, 0x1fffff, 0x200000, math.MaxInt32}

// isRune tells whether a number is a code point.
func isRune(r rune) bool {
	return r >= 0 && r <= 0x10ffff && (r < 0xd800 || r > 0xdfff)
}

// bytesOf are a code point's bytes, six bits each behind the first.
func bytesOf(r rune) string {
	behind := func(bits rune) byte { return byte(0x80 | bits&0x3f) }
	switch {
	case r < 0x80:
		return string([]byte{byte(r)})
	case r < 0x800:
		return string([]byte{byte(0xc0 | r>>6), behind(r)})
	case r < 0x10000:
		return string([]byte{byte(0xe0 | r>>12), behind(r >> 6), behind(r)})
	}
	return string([]byte{byte(0xf0 | r>>18), behind(r >> 12), behind(r >> 6), behind(r)})
}

// runeOf is what Rune must answer of a place that is one: what the bits would make must have these very bytes.
func runeOf(s string, at int) (rune, int) {
	for size := 1; size <= 4 && at+size <= len(s); size++ {
		r := rune(s[at])
		if size > 1 {
			r &= 0xff >> (size + 1)
		}
		for _, b := range []byte(s[at+1 : at+size]) {
			r = r<<6 | rune(b&0x3f)
		}
		if isRune(r) && bytesOf(r) == s[at:at+size] {
			return r, size
		}
	}
	return -1, 1
}

// runesOf is what Runes must answer.
func runesOf(s string) (l []rune) {
	for at := 0; at < len(s); {
		r, size := runeOf(s, at)
		l = append(l, r)
		at += size
	}
	return l
}

// hold holds all calls at a text against what they must answer.
func hold(t *testing.T, s string) {
	t.Helper()
	for at := range len(s) {
		r, size := utf.Rune(s, at)
		if wantRune, wantSize := runeOf(s, at); r != wantRune || size != wantSize {
			t.Fatalf("Rune(%q, %d): %d, %d", s, at, r, size)
		}
	}
	want := runesOf(s)
	l := utf.Runes(s)
	if !slices.Equal(l, want) {
		t.Fatalf("Runes(%q): %x", s, l)
	}
	valid := !slices.Contains(want, -1)
	if got := utf.Valid(s); got != valid {
		t.Fatalf("Valid(%q): %v", s, got)
	}
	back, ok := utf.Join(l)
	if ok != valid || valid && back != s || !valid && back != "" {
		t.Fatalf("Join(Runes(%q)): %q, %v", s, back, ok)
	}
}

// P4.1
func TestEveryCodePoint(t *testing.T) {
	for r := rune(0); r <= 0x10ffff; r++ {
		if !isRune(r) {
			continue
		}
		s := bytesOf(r)
		if got := utf.Put(r); got != s {
			t.Fatalf("Put(%x): %q", r, got)
		}
		if got, size := utf.Rune("x"+s+"y", 1); got != r || size != len(s) {
			t.Fatalf("Rune of %q: %x, %d", s, got, size)
		}
		if !utf.Valid(s) {
			t.Fatalf("Valid(%q)", s)
		}
	}
}

// P4.1
func TestNoCodePoint(t *testing.T) {
	for r := rune(0xd800); r <= 0xdfff; r++ {
		if got := utf.Put(r); got != "" {
			t.Fatalf("Put(%x): %q", r, got)
		}
		hold(t, bytesOf(r))
	}
	for _, r := range notRunes {
		if got := utf.Put(r); got != "" {
			t.Errorf("Put(%x): %q", r, got)
		}
		for _, l := range [][]rune{{r}, {'a', r}, {r, 'a'}, {0x20ac, r, 0x10ffff}} {
			if s, ok := utf.Join(l); s != "" || ok {
				t.Errorf("Join(%x): %q, %v", l, s, ok)
			}
		}
	}
}

// P4.1
func TestPlacesOutside(t *testing.T) {
	for _, s := range []string{"", "a", "\xe2\x82\xac", "\xff\xff"} {
		for _, at := range []int{-1, -2, len(s), len(s) + 1, math.MinInt, math.MaxInt} {
			if r, size := utf.Rune(s, at); r != -1 || size != 0 {
				t.Errorf("Rune(%q, %d): %d, %d", s, at, r, size)
			}
		}
	}
}

// P4.1
func TestNamedTexts(t *testing.T) {
	for _, s := range []string{
		"", "a", "\x00", "\x7f", "\u0080", "\u07ff", "\u0800", "\ud7ff", "\ue000", "\ufffd", "\uffff", "\U00010000", "\U0010ffff",
		"\ufeffa", "a\u0301", "caf\u00e9 \u20ac \U0001f600",
		"\xc0\x80", "\xc1\xbf", "\xe0\x80\x80", "\xe0\x9f\xbf", "\xf0\x80\x80\x80", "\xf0\x8f\xbf\xbf", "\xf4\x90\x80\x80", "\xf8\x88\x80\x80\x80", "\xfe", "\xff",
		"\xed\xa0\x80", "\xed\xbf\xbf", "\xed\xa0\xbd\xed\xb8\x80",
		"a\xe2", "a\xe2\x82", "a\xf0\x9f\x98", "\xe2\x82\xe2\x82\xac", "\ufffd\xff\ufffd", "\xef\xbf", "\xef\xbf\xbd\xbd",
	} {
		hold(t, s)
	}
}

// P4.1
func TestPairsOfBytes(t *testing.T) {
	for first := range 256 {
		for second := range 256 {
			for _, behind := range []string{"", "\x80", "\xbf\xbf", "\x80a", "\xc0\x80"} {
				hold(t, string([]byte{byte(first), byte(second)})+behind)
			}
		}
	}
}

// P4.1
func TestEdgeBytes(t *testing.T) {
	var b [4]byte
	for _, b[0] = range edgeBytes {
		for _, b[1] = range edgeBytes {
			for _, b[2] = range edgeBytes {
				for _, b[3] = range edgeBytes {
					hold(t, string(b[:]))
				}
			}
		}
	}
}

// P4.2
func TestRunesAndJoinUndoOneAnother(t *testing.T) {
	edges := []rune{0, 1, 'a', 0x7f, 0x80, 0x7ff, 0x800, 0xd7ff, 0xe000, 0xfffc, 0xfffd, 0xfffe, 0xffff, 0x10000, 0x10fffe, 0x10ffff}
	for _, a := range edges {
		for _, b := range edges {
			for _, c := range edges {
				l := []rune{a, b, c}
				s, ok := utf.Join(l)
				if want := bytesOf(a) + bytesOf(b) + bytesOf(c); s != want || !ok {
					t.Fatalf("Join(%x): %q, %v", l, s, ok)
				}
				if got := utf.Runes(s); !slices.Equal(got, l) {
					t.Fatalf("Runes(%q): %x", s, got)
				}
				if back, ok := utf.Join(utf.Runes(s)); back != s || !ok {
					t.Fatalf("there and back: %q, %q", s, back)
				}
			}
		}
	}
	if s, ok := utf.Join(nil); s != "" || !ok {
		t.Errorf("Join of none: %q, %v", s, ok)
	}
}

func TestLongTexts(t *testing.T) {
	long := strings.Repeat("a\u20ac\U0001f600", 100000)
	if got, ok := utf.Join(utf.Runes(long)); got != long || !ok || !utf.Valid(long) {
		t.Error("a long text")
	}
	if utf.Valid(long+"\xe2") || len(utf.Runes(long+"\xe2")) != 300001 {
		t.Error("a long text with a wrong end")
	}
	if wrong := strings.Repeat("\xf0\x9f\x98", 100000); len(utf.Runes(wrong)) != 300000 || utf.Valid(wrong) {
		t.Error("a long wrong text")
	}
}

// R3
func TestMemory(t *testing.T) {
	l := append(make([]rune, 0, 8), 'a', 0x20ac, -1, 7)[:2]
	if s, ok := utf.Join(l); s != "a\u20ac" || !ok {
		t.Errorf("Join: %q, %v", s, ok)
	}
	if !slices.Equal(l[:4], []rune{'a', 0x20ac, -1, 7}) {
		t.Error("Join changed what it was given", l[:4])
	}
	a, b := utf.Runes("abc"), utf.Runes("abc")
	clear(a[:cap(a)])
	if !slices.Equal(b, []rune{'a', 'b', 'c'}) || !slices.Equal(utf.Runes("abc"), b) {
		t.Error("two answers of Runes share memory")
	}
}

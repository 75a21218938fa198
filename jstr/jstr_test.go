package jstr_test

import (
	"encoding/json"
	"fmt"
	"math/rand"
	"strings"
	"testing"
	"unicode/utf8"

	"erratum/api"
	"erratum/jstr"
)

// quotedOf is what Quote must answer of a valid text, code point by code point.
func quotedOf(s string) string {
	t := `"`
	for _, r := range s {
		switch r {
		case '"':
			t += `\"`
		case '\\':
			t += `\\`
		case 8:
			t += `\b`
		case 9:
			t += `\t`
		case 10:
			t += `\n`
		case 12:
			t += `\f`
		case 13:
			t += `\r`
		default:
			if r < 32 {
				t += fmt.Sprintf(`\u%04x`, r)
			} else {
				t += string(r)
			}
		}
	}
	return t + `"`
}

// valid are texts of which some ask for an escape, and some only seem to.
func valid() []string {
	return []string{
		"", "a", " ", "abc", "a b", "/", "//", "'", "`", "</script>", "&<>",
		`"`, `""`, `\`, `\\`, `\"`, `"\`, `a"b`, `a\b`, `\n`, `\u0041`, `\ud834\udd1e`,
		"\x00", "\x01", "\x07", "\b", "\t", "\n", "\x0b", "\f", "\r", "\x0e", "\x0f", "\x10", "\x1a", "\x1f", "\x7f",
		"\b\t\n\x0b\f\r", "a\nb", "\na", "a\n", "\n\n", "\x1f\x00\x1f", "a\x00b\"c\\d/e\x7f",
		"\u0080", "\u0085", "\u00a0", "\u00e9", "\u07ff", "\u0800", "\u2028", "\u2029", "\u20ac", "\ud7ff", "\ue000", "\ufeff", "\ufffd", "\uffff",
		"\U00010000", "\U0001d11e", "\U0010ffff", "\u20ac\"\U0001d11e\\\u00e9\n\u00e9",
		strings.Repeat("a", 2001), strings.Repeat("\n", 3000), strings.Repeat("\x1f\u20ac", 3000),
	}
}

// invalid are texts that are no UTF-8.
func invalid() []string {
	return []string{"\xff", "\x80", "a\xff", "\xffa", "\xe2", "\xe2\x82", "a\xe2\x82\"", "\xe2\"\x82\xac", "\xc0\x80", "\xc1\xbf", "\xe0\x9f\xbf", "\xed\xa0\x80", "\xed\xbf\xbf", "\xed\xa0\xb4\xed\xb4\x9e", "\xf0\x8f\xbf\xbf", "\xf4\x90\x80\x80", "\xf8\x88\x80\x80\x80", "\n\xff", "\xff\n", "\u20ac\xac", strings.Repeat("a", 2000) + "\xfe"}
}

// mixed is a text of pieces, the more the greater many is.
func mixed(r *rand.Rand, pieces []string, many int) string {
	var b strings.Builder
	for range many {
		b.WriteString(pieces[r.Intn(len(pieces))])
	}
	return b.String()
}

// P7.1
func TestQuoteNamed(t *testing.T) {
	for _, x := range []struct{ s, want string }{
		{"", `""`},
		{"a\nb", `"a\nb"`},
		{`"`, `"\""`},
		{`\`, `"\\"`},
		{"\b\t\n\f\r", `"\b\t\n\f\r"`},
		{"\x00\x01\x02\x03\x04\x05\x06\x07", `"\u0000\u0001\u0002\u0003\u0004\u0005\u0006\u0007"`},
		{"\x0b\x0e\x0f", `"\u000b\u000e\u000f"`},
		{"\x10\x19\x1a\x1b\x1c\x1d\x1e\x1f", `"\u0010\u0019\u001a\u001b\u001c\u001d\u001e\u001f"`},
		{" !/'<>&\x7f", "\" !/'<>&\x7f\""},
		{"\u0080\u2028\u2029\ufeff\ufffd\U0001d11e", "\"\u0080\u2028\u2029\ufeff\ufffd\U0001d11e\""},
	} {
		if got := jstr.Quote(x.s); got != x.want {
			t.Errorf("Quote(%q): %s", x.s, got)
		}
	}
}

// P7.1
func TestQuoteOfOthers(t *testing.T) {
	for _, s := range invalid() {
		if got := jstr.Quote(s); got != "" {
			t.Errorf("Quote(%q): %q", s, got)
		}
	}
	for first := range 256 {
		for second := range 256 {
			s := string([]byte{byte(first), byte(second)})
			want := ""
			if utf8.ValidString(s) {
				want = quotedOf(s)
			}
			if got := jstr.Quote(s); got != want {
				t.Fatalf("Quote(%q): %q", s, got)
			}
		}
	}
}

// P7.1, P7.3
func TestEveryCodePoint(t *testing.T) {
	for r := rune(0); r <= 0x10ffff; r++ {
		if !utf8.ValidRune(r) {
			continue
		}
		s := string(r)
		got := jstr.Quote(s)
		if want := quotedOf(s); got != want {
			t.Fatalf("Quote(%q): %q", s, got)
		}
		if back, next, e := jstr.Unquote(got, 0); back != s || next != len(got) || e != api.OK {
			t.Fatalf("Unquote(%q): %q, %d, %d", got, back, next, e)
		}
	}
}

// P7.1, P7.3
func TestThereAndBack(t *testing.T) {
	l := valid()
	r := rand.New(rand.NewSource(7))
	for many := range 200 {
		l = append(l, mixed(r, valid()[:60], many))
	}
	for _, s := range l {
		got := jstr.Quote(s)
		if want := quotedOf(s); got != want {
			t.Fatalf("Quote(%q): %q", s, got)
		}
		var other string
		if err := json.Unmarshal([]byte(got), &other); err != nil || other != s {
			t.Fatalf("%q is no JSON for %q: %v", got, s, err)
		}
		for _, ahead := range []string{"", "x", `"`, `"a",`, "\xff"} {
			for _, behind := range []string{"", "x", `"`, `,"a"`, "\xff", "\x00", `\`} {
				back, next, e := jstr.Unquote(ahead+got+behind, len(ahead))
				if back != s || next != len(ahead)+len(got) || e != api.OK {
					t.Fatalf("Unquote(%q, %d): %q, %d, %d", ahead+got+behind, len(ahead), back, next, e)
				}
			}
		}
	}
}

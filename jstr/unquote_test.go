package jstr_test

import (
	"encoding/json"
	"fmt"
	"math"
	"math/rand"
	"regexp"
	"strconv"
	"strings"
	"testing"
	"unicode/utf16"
	"unicode/utf8"

	"erratum/api"
	"erratum/jstr"
)

// form is a text in quote signs as far as its bytes tell: neither that it is UTF-8 nor that each pair is one.
var form = regexp.MustCompile(`^"(?:[^"\\\x00-\x1f]|\\["\\/bfnrt]|\\u[0-9a-fA-F]{4})*"`)

// part is what one escape, or one run without any, is.
var part = regexp.MustCompile(`(?s)\\u....|\\[^u]|[^\\]+`)

// unquotedOf is what Unquote must answer.
func unquotedOf(s string, at int) (string, int, api.Errno) {
	if at < 0 || at >= len(s) {
		return "", 0, api.Malformed
	}
	all := quotedBytes(s[at:])
	if len(all) == 0 || !utf8.ValidString(all) {
		return "", 0, api.Malformed
	}
	text, ok := join(part.FindAllString(all[1:len(all)-1], -1))
	if !ok {
		return "", 0, api.Malformed
	}
	return text, at + len(all), api.OK
}

// quotedBytes are the bytes from the front on that have the form. Bytes are put as code points ahead of asking: the form is asked of bytes.
func quotedBytes(s string) string {
	runes := make([]rune, len(s))
	for i := range len(s) {
		runes[i] = rune(s[i])
	}
	return s[:len([]rune(form.FindString(string(runes))))]
}

// join puts the parts together; false, if half of a pair is alone.
func join(parts []string) (string, bool) {
	var units []uint16
	for _, p := range parts {
		switch {
		case p[0] != '\\':
			units = append(units, utf16.Encode([]rune(p))...)
		case p[1] == 'u':
			unit, _ := strconv.ParseUint(p[2:], 16, 16)
			units = append(units, uint16(unit))
		default:
			units = append(units, uint16("\"\\/\b\f\n\r\t"[strings.IndexByte(`"\/bfnrt`, p[1])]))
		}
	}
	runes := utf16.Decode(units)
	back := utf16.Encode(runes)
	for i, unit := range back { // a half that is alone was decoded to another code point
		if unit != units[i] {
			return "", false
		}
	}
	return string(runes), true
}

// hold holds Unquote against what it must answer.
func hold(t *testing.T, s string, at int) {
	t.Helper()
	text, next, e := jstr.Unquote(s, at)
	wantText, wantNext, want := unquotedOf(s, at)
	if text != wantText || next != wantNext || e != want {
		t.Fatalf("Unquote(%q, %d): %q, %d, %d, not %q, %d, %d", s, at, text, next, e, wantText, wantNext, want)
	}
}

// P7.2
func TestUnquoteNamed(t *testing.T) {
	for _, x := range []struct {
		s    string
		at   int
		want string
		next int
	}{
		{`""`, 0, "", 2},
		{`"a"`, 0, "a", 3},
		{`"a""b"`, 0, "a", 3},
		{`"a""b"`, 3, "b", 6},
		{`"a""b"`, 2, "", 4},
		{`["a\"",1]`, 1, `a"`, 6},
		{`"\"\\\/\b\f\n\r\t"`, 0, "\"\\/\b\f\n\r\t", 18},
		{`"/"`, 0, "/", 3},
		{`"\u0000\u001f\u0020\u007f\u0080"`, 0, "\x00\x1f \x7f\u0080", 32},
		{`"\u20ac\u20AC\u20aC\u20Ac"`, 0, "\u20ac\u20ac\u20ac\u20ac", 26},
		{`"\u00412"`, 0, "A2", 9},
		{`"\u005c\u0022\u005cn"`, 0, "\\\"\\n", 21},
		{`"\\u0041"`, 0, `\u0041`, 9},
		{`"\ud7ff\ue000\uFFFD\ufffe\uffff"`, 0, "\ud7ff\ue000\ufffd\ufffe\uffff", 32},
		{`"\ud800\udc00"`, 0, "\U00010000", 14},
		{`"\uD834\udd1E"`, 0, "\U0001d11e", 14},
		{`"\udbff\udfff"`, 0, "\U0010ffff", 14},
		{`"\ud800\udfff\udbff\udc00"`, 0, "\U000103ff\U0010fc00", 26},
		{`"\ud834\udd1e\u0041\ud834\udd1e"`, 0, "\U0001d11eA\U0001d11e", 32},
		{"\"\x7f\u0080\u2028\ufffd\U0010ffff\"", 0, "\x7f\u0080\u2028\ufffd\U0010ffff", 15},
		{"\"a\"\xff", 0, "a", 3},
		{"\xff\"a\"", 1, "a", 4},
		{"\"a\"\n\x00", 0, "a", 3},
	} {
		if text, next, e := jstr.Unquote(x.s, x.at); text != x.want || next != x.next || e != api.OK {
			t.Errorf("Unquote(%q, %d): %q, %d, %d", x.s, x.at, text, next, e)
		}
	}
}

// P7.2
func TestUnquoteMalformed(t *testing.T) {
	for _, s := range []string{
		"", " ", "a", "'a'", " \"a\"", "\u201ca\u201d", "\xff", `\"a"`,
		`"`, `"a`, `"a\`, `"a\"`, `"\\\"`, `"\u`, `"\u1`, `"\u12`, `"\u123`, `"\u1234`, `"\ud834`, `"\ud834\`, `"\ud834\u`, `"\ud834\udd1`, `"\ud834\udd1e`,
		"\"\n\"", "\"a\tb\"", "\"\x00\"", "\"\x1f\"", "\"a\\n\nb\"",
		`"\a"`, `"\v"`, `"\0"`, `"\1"`, `"\'"`, `"\x41"`, `"\ "`, `"\N"`, `"\B"`, `"\T"`, `"\R"`, `"\F"`, "\"\\\n\"", "\"\\\u00e9\"", "\"\\\x00\"",
		`"\U0041"`, `"\U00000041"`, `"\u"`, `"\u0"`, `"\u00"`, `"\u004"`, `"\u004"1`, `"\u004g"`, `"\u004G"`, `"\u00`, `"\u+041"`, `"\u-041"`, `"\u 041"`, `"\u0x41"`, `"\u{41}"`, `"\u00_1"`, "\"\\u004\x00\"", `"\u004:"`, `"\u004/"`, `"\u004@"`, "\"\\u004`\"", "\"\\u00\uff11\"",
		`"\ud800"`, `"\udbff"`, `"\udc00"`, `"\udfff"`, `"\uD800"`, `"\uDFFF"`,
		`"\ud800a"`, `"a\ud800"`, `"\ud800\n"`, `"\ud800\\udc00"`, `"\ud800\\"`, `"\ud800udc00"`, `"\ud800 \udc00"`, `"\ud800/\udc00"`, `"\ud800\Udc00"`, `"\ud800\"`,
		`"\ud800\u0041"`, `"\ud800\ud800"`, `"\ud800\udbff"`, `"\ud800\udbff\udc00"`, `"\ud800\ue000"`, `"\ud800\ud7ff"`, `"\ud800\uffff"`,
		`"\udc00\ud800"`, `"\udc00\udc00"`, `"\udfff\udfff"`, `"\udc00\u0041"`, `"\ud834\udd1e\udd1e"`, `"\ud834\udd1e\ud834"`, `"\ud834\ud834\udd1e"`,
		`"\ud800\u"`, `"\ud800\udc0"`, `"\ud800\udc0g"`,
		"\"\\ud800\xed\xb0\x80\"", "\"\xed\xa0\x80\\udc00\"", "\"\xed\xa0\x80\xed\xb0\x80\"",
	} {
		if text, next, e := jstr.Unquote(s, 0); text != "" || next != 0 || e != api.Malformed {
			t.Errorf("Unquote(%q, 0): %q, %d, %d", s, text, next, e)
		}
		if text, next, e := jstr.Unquote("ab"+s, 2); text != "" || next != 0 || e != api.Malformed {
			t.Errorf("Unquote(%q, 2): %q, %d, %d", "ab"+s, text, next, e)
		}
	}
	for _, s := range invalid() {
		s = `"` + strings.ReplaceAll(strings.ReplaceAll(s, `"`, `\"`), "\n", `\n`) + `"`
		if text, next, e := jstr.Unquote(s, 0); text != "" || next != 0 || e != api.Malformed {
			t.Errorf("Unquote(%q, 0): %q, %d, %d", s, text, next, e)
		}
	}
}

// P7.2, and R1 of the page of rules
func TestUnquotePlacesOutside(t *testing.T) {
	for _, s := range []string{"", `"`, `""`, `"a"`, `"a""b"`} {
		for _, at := range []int{-1, -2, -len(s), -len(s) - 1, len(s), len(s) + 1, math.MinInt, math.MinInt + 1, math.MaxInt, math.MaxInt - 1, 1 << 32} {
			if at >= 0 && at < len(s) {
				continue
			}
			if text, next, e := jstr.Unquote(s, at); text != "" || next != 0 || e != api.Malformed {
				t.Errorf("Unquote(%q, %d): %q, %d, %d", s, at, text, next, e)
			}
		}
	}
}

// P7.2
func TestUnquoteEveryByte(t *testing.T) {
	for c := range 256 {
		one := string([]byte{byte(c)})
		for _, s := range []string{one, one + `a"`, `"` + one + `"`, `"ab` + one + `cd"`, `"\` + one + `"`, `"\` + one + `041"`, `"\` + one + `0041"`, `"\n` + one + `"`, `"\ud834` + one + `udd1e"`, `"\ud834\` + one + `dd1e"`, "\"\u20ac" + one + "\"", "\"\xe2\x82" + one + "\"", "\"\xe2" + one + "\xac\""} {
			hold(t, s, 0)
		}
		for place := range 4 {
			for _, digits := range []string{"0041", "d7ff", "FACE", "9a9A"} {
				s := `"\u` + digits[:place] + one + digits[place+1:] + `"`
				hold(t, s, 0)
				s = `"\ud834\udd1e"`
				hold(t, s[:9+place]+one+s[10+place:], 0)
				hold(t, s[:3+place]+one+s[4+place:], 0)
			}
		}
	}
}

// P7.2
func TestUnquoteEveryNumber(t *testing.T) {
	for u := range 0x10000 {
		for _, digits := range []string{fmt.Sprintf("%04x", u), fmt.Sprintf("%04X", u)} {
			for _, s := range []string{`"\u` + digits + `"`, `"\u` + digits + `\udc00"`, `"\ud800\u` + digits + `"`, `"a\u` + digits + `\udbff\udfff"`} {
				hold(t, s, 0)
			}
		}
	}
}

// P7.2
func TestUnquoteEveryPair(t *testing.T) {
	for r := rune(0x10000); r <= 0x10ffff; r += 7 {
		high, low := utf16.EncodeRune(r)
		s := fmt.Sprintf(`"\u%x\u%X"`, high, low)
		if text, next, e := jstr.Unquote(s, 0); text != string(r) || next != len(s) || e != api.OK {
			t.Fatalf("Unquote(%q, 0): %q, %d, %d", s, text, next, e)
		}
	}
}

// pieces are parts of texts, most of them right.
var pieces = []string{
	"a", "b", "xyz", " ", "/", "\u00e9", "\u20ac", "\U0001d11e", "\ufffd", "\x7f", "u", "n", "0", "d8", "\\n", `\"`, `\\`, `\/`, `\b`, `\f`, `\r`, `\t`,
	`\u0041`, `\u00E9`, `\u20ac`, `\u0000`, `\uffff`, `\ud834\udd1e`, `\uD800\uDC00`, `\udbff\uDFFF`,
}

// wrongPieces are parts that are wrong, or make what is behind them wrong, or end a text.
var wrongPieces = []string{`\`, `"`, "\n", "\x00", "\x1f", "\xff", "\x80", "\xe2\x82", `\x`, `\u`, `\u00`, `\u00g0`, `\ud834`, `\udd1e`, `\U0041`, "\xed\xa0\x80"}

// P7.2
func TestUnquoteMixed(t *testing.T) {
	r := rand.New(rand.NewSource(72))
	fine := 0
	for many := range 4000 {
		s := mixed(r, pieces, many%50)
		if many%3 != 0 {
			s += mixed(r, wrongPieces, 1) + mixed(r, pieces, r.Intn(4)) + mixed(r, wrongPieces, r.Intn(2))
		}
		s = `"` + s + `"` + mixed(r, pieces, r.Intn(3))
		for at := range min(len(s), 40) {
			hold(t, s, at)
		}
		text, next, e := jstr.Unquote(s, 0)
		if e != api.OK {
			continue
		}
		fine++
		var other string
		if err := json.Unmarshal([]byte(s[:next]), &other); err != nil || other != text {
			t.Fatalf("Unquote(%q, 0): %q, where JSON has %q, %v", s, text, other, err)
		}
	}
	if fine < 1000 {
		t.Errorf("only %d were taken", fine)
	}
}

// P7.2
func TestUnquoteCut(t *testing.T) {
	s := `"` + strings.Join(pieces, "") + `"`
	if _, next, e := jstr.Unquote(s, 0); next != len(s) || e != api.OK {
		t.Fatalf("Unquote(%q, 0): %d, %d", s, next, e)
	}
	for end := range s {
		if text, next, e := jstr.Unquote(s[:end], 0); text != "" || next != 0 || e != api.Malformed {
			t.Errorf("Unquote(%q, 0): %q, %d, %d", s[:end], text, next, e)
		}
	}
	for at := range s {
		hold(t, s, at)
	}
}

// P7.2: a long text is taken in one call, with no limit, and in no more than some steps a byte.
func TestUnquoteLong(t *testing.T) {
	const many = 1 << 20
	for _, x := range []struct{ piece, is string }{{"a", "a"}, {`\n`, "\n"}, {`\u20AC`, "\u20ac"}, {`\ud834\udd1e`, "\U0001d11e"}, {"\u20ac\\/", "\u20ac/"}} {
		s := `"` + strings.Repeat(x.piece, many) + `"`
		text, next, e := jstr.Unquote(s, 0)
		if text != strings.Repeat(x.is, many) || next != len(s) || e != api.OK {
			t.Errorf("Unquote of many %q: %d bytes, %d, %d", x.piece, len(text), next, e)
		}
		if _, next, e := jstr.Unquote(s[:len(s)-1], 0); next != 0 || e != api.Malformed {
			t.Errorf("Unquote of many %q without an end: %d, %d", x.piece, next, e)
		}
	}
}

package pointer_test

import (
	"fmt"
	"math"
	"math/rand"
	"slices"
	"strings"
	"testing"
	"unicode/utf8"

	"erratum/api"
	"erratum/pointer"
)

// read is what Parse must answer: it goes byte by byte, one state after the other.
func read(s string) ([]string, api.Errno) {
	if s == "" {
		return nil, api.OK
	}
	if s[0] != '/' || !utf8.ValidString(s) {
		return nil, api.Malformed
	}
	var path []string
	for i := 0; i < len(s); i++ {
		last := len(path) - 1
		switch {
		case s[i] == '/':
			path = append(path, "")
		case s[i] != '~':
			path[last] += s[i : i+1]
		case strings.HasPrefix(s[i:], "~0"):
			path[last] += "~"
			i++
		case strings.HasPrefix(s[i:], "~1"):
			path[last] += "/"
			i++
		default:
			return nil, api.Malformed
		}
	}
	if len(path) > 63 {
		return nil, api.Limit
	}
	return path, api.OK
}

// written is what Text must answer.
func written(path []string) string {
	s := ""
	for _, token := range path {
		s += "/"
		for i := range len(token) {
			switch token[i] {
			case '~':
				s += "~0"
			case '/':
				s += "~1"
			default:
				s += token[i : i+1]
			}
		}
	}
	return s
}

// P14.1
func TestParse(t *testing.T) {
	long := strings.Repeat("x", 5000)
	for _, x := range []struct {
		s    string
		want []string
	}{
		{"", nil}, {"/", []string{""}}, {"//", []string{"", ""}}, {"/a", []string{"a"}}, {"/a/", []string{"a", ""}}, {"//a", []string{"", "a"}}, {"/a/b/c", []string{"a", "b", "c"}},
		{"/a~1b/0", []string{"a/b", "0"}}, {"/~0", []string{"~"}}, {"/~1", []string{"/"}}, {"/~01", []string{"~1"}}, {"/~00", []string{"~0"}}, {"/~10", []string{"/0"}}, {"/~11", []string{"/1"}}, {"/~0~1", []string{"~/"}}, {"/~1~0", []string{"/~"}}, {"/~0~0", []string{"~~"}}, {"/~001", []string{"~01"}}, {"/~1/~0", []string{"/", "~"}}, {"/0~0/1", []string{"0~", "1"}},
		{"/ ", []string{" "}}, {"/\x00\n", []string{"\x00\n"}}, {"/\u20ac/\U0010ffff", []string{"\u20ac", "\U0010ffff"}}, {"/\ufffd", []string{"\ufffd"}}, {"/-/%25/#/\"\\", []string{"-", "%25", "#", "\"\\"}}, {"/" + long, []string{long}},
		{strings.Repeat("/", 63), slices.Repeat([]string{""}, 63)}, {strings.Repeat("/~1~0", 63), slices.Repeat([]string{"/~"}, 63)}, {strings.Repeat("/~1~1", 63), slices.Repeat([]string{"//"}, 63)},
	} {
		if got, e := pointer.Parse(x.s); !slices.Equal(got, x.want) || e != api.OK {
			t.Errorf("Parse(%q): %q, %d", x.s, got, e)
		}
		if got := pointer.Text(x.want); got != x.s {
			t.Errorf("Text(%q): %q", x.want, got)
		}
	}
}

// P14.1: what is no UTF-8 and a tilde behind all are told ahead of too many tokens.
func TestParseRefuses(t *testing.T) {
	many := strings.Repeat("/", 64)
	for s, want := range map[string]api.Errno{
		"a": api.Malformed, " ": api.Malformed, " /": api.Malformed, "a/b": api.Malformed, "~1": api.Malformed, "~": api.Malformed, "#/a": api.Malformed, "\x00": api.Malformed, "0": api.Malformed, "\u2044": api.Malformed,
		"/~": api.Malformed, "/a~": api.Malformed, "/~2": api.Malformed, "/~/": api.Malformed, "/~/0": api.Malformed, "/~~": api.Malformed, "/~~0": api.Malformed, "/~0~": api.Malformed, "/~ 0": api.Malformed, "/~a": api.Malformed, "/~-1": api.Malformed, "/~\u0660": api.Malformed, "/~\x000": api.Malformed, "/a/b~/c": api.Malformed, "/~1~": api.Malformed, "/~:": api.Malformed,
		"\xff": api.Malformed, "/\xff": api.Malformed, "/a/b\x80": api.Malformed, "/\xc0\x80": api.Malformed, "/\xed\xa0\x80": api.Malformed, "/\xf4\x90\x80\x80": api.Malformed, "/\xe2\x82/\xac": api.Malformed, "/\xe2\x82": api.Malformed,
		many: api.Limit, many + "a": api.Limit, strings.Repeat("/a", 64): api.Limit, strings.Repeat("/~0", 5000): api.Limit,
		many + "~": api.Malformed, "/~2" + many: api.Malformed, many + "\xff": api.Malformed, "\xff" + many: api.Malformed, "a" + many: api.Malformed, "/\x80" + many: api.Malformed,
	} {
		if got, e := pointer.Parse(s); len(got) != 0 || e != want {
			t.Errorf("Parse(%q): %q, %d, not %d", s, got, e, want)
		}
	}
}

// P14.1: of short texts of what means something, all there are.
func TestParseAll(t *testing.T) {
	went := 0
	l := []string{""}
	for range 6 {
		var longer []string
		for _, s := range l {
			for _, b := range []string{"/", "~", "0", "1", "a", "\x80"} {
				longer = append(longer, s+b)
			}
		}
		for _, s := range longer {
			want, e := read(s)
			got, is := pointer.Parse(s)
			if !slices.Equal(got, want) || is != e {
				t.Fatalf("Parse(%q): %q, %d, not %q, %d", s, got, is, want, e)
			}
			if e == api.OK {
				went++
				if back := pointer.Text(got); back != s {
					t.Fatalf("Text(%q): %q", got, back)
				}
			}
		}
		l = longer
	}
	if went < 1000 {
		t.Errorf("only %d texts went", went)
	}
}

// P14.1: Text is of any tokens, what they are made of and how many.
func TestText(t *testing.T) {
	for _, path := range [][]string{nil, {}, {""}, {"a", ""}, {"\xff~", "/\x80"}, {"~", "/", "~~", "//", "~/", "/~", "~0", "~1"}, {strings.Repeat("~/", 3000)}, slices.Repeat([]string{"~", "", "a/"}, 300)} {
		if got := pointer.Text(path); got != written(path) {
			t.Errorf("Text(%q): %q", path, got)
		}
	}
	r := rand.New(rand.NewSource(14))
	for range 3000 {
		var path []string
		for range r.Intn(64) {
			token := ""
			for range r.Intn(5) {
				token += []string{"~", "/", "0", "1", "a", "\u20ac"}[r.Intn(6)]
			}
			path = append(path, token)
		}
		s := pointer.Text(path)
		if got, e := pointer.Parse(s); s != written(path) || !slices.Equal(got, path) || e != api.OK {
			t.Fatalf("%q as a text: %q, and back: %q, %d", path, s, got, e)
		}
	}
}

// R3: two answers have no memory in common.
func TestParseMemory(t *testing.T) {
	a, _ := pointer.Parse("/a~1/b")
	b, _ := pointer.Parse("/a~1/b")
	clear(a[:cap(a)])
	if !slices.Equal(b, []string{"a/", "b"}) {
		t.Errorf("spoiled: %q", b)
	}
	path := []string{"a/", "~b"}
	if s := pointer.Text(path); s != "/a~1/~0b" || !slices.Equal(path, []string{"a/", "~b"}) {
		t.Errorf("Text of what is then %q: %q", path, s)
	}
}

// P14.2
func TestIndex(t *testing.T) {
	for _, most := range []int{math.MinInt, -10000, -1, 0, 1, 2, 8, 9, 10, 11, 99, 100, 299, 300, 999, 1000, 9998, 9999, 10000, 99999, 1 << 32, math.MaxInt} {
		for n := range 10050 {
			token := fmt.Sprint(n)
			want, ok := n, n <= most && n <= 9999
			if !ok {
				want = 0
			}
			if got, is := pointer.Index(token, most); got != want || is != ok {
				t.Fatalf("Index(%q, %d): %d, %t", token, most, got, is)
			}
		}
		for _, token := range odd() {
			if got, ok := pointer.Index(token, most); got != 0 || ok {
				t.Errorf("Index(%q, %d): %d, %t", token, most, got, ok)
			}
		}
	}
	for b := range 256 { // each byte alone, and ahead of and behind a digit
		c := string([]byte{byte(b)})
		digit := b >= '0' && b <= '9'
		for _, x := range []struct {
			token string
			ok    bool
		}{{c, digit}, {c + "5", digit && b != '0'}, {"5" + c, digit}, {"55" + c + "5", digit}} {
			if _, ok := pointer.Index(x.token, math.MaxInt); ok != x.ok {
				t.Errorf("Index(%q): %t", x.token, ok)
			}
		}
	}
}

// P14.2
func TestStarts(t *testing.T) {
	var paths [][]string
	for i := range 1 << 8 { // paths of up to four tokens of three
		var path []string
		for n := i; n > 0; n /= 4 {
			if n%4 > 0 {
				path = append(path, []string{"", "a", "ab"}[n%4-1])
			}
		}
		paths = append(paths, path)
	}
	held := 0
	for _, a := range paths {
		for _, b := range paths {
			want := strings.HasPrefix(written(b)+"/", written(a)+"/")
			if got := pointer.Starts(a, b); got != want {
				t.Fatalf("Starts(%q, %q): %t", a, b, got)
			}
			if want {
				held++
			}
		}
	}
	if held < 1000 {
		t.Errorf("only %d began so", held)
	}
	long := slices.Repeat([]string{"a"}, 100000)
	for _, x := range []struct {
		a, b []string
		want bool
	}{
		{nil, nil, true}, {nil, []string{}, true}, {[]string{}, nil, true}, {[]string{""}, nil, false}, {nil, []string{""}, true}, {long, long, true}, {long[1:], long, true}, {long, long[1:], false},
		{[]string{"a"}, append(make([]string, 0, 4), "a", "b")[:0], false}, {[]string{"A"}, []string{"a"}, false}, {[]string{"\xff"}, []string{"\xff", ""}, true}, {[]string{"a/b"}, []string{"a", "b"}, false}, {[]string{"a", "b"}, []string{"a/b"}, false}, {[]string{"1"}, []string{"01"}, false},
	} {
		if got := pointer.Starts(x.a, x.b); got != x.want {
			t.Errorf("Starts of %d and %d tokens: %t", len(x.a), len(x.b), got)
		}
	}
}

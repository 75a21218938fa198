package json_test

import (
	stdjson "encoding/json"
	"math/rand"
	"slices"
	"strings"
	"testing"
	"unicode/utf8"

	"erratum/api"
	"erratum/json"
	"erratum/num"
)

// hold holds Decode against the other reader, and answers its error.
func hold(t *testing.T, s string) api.Errno {
	t.Helper()
	want, wantE := decodedOf(s)
	if got, e := json.Decode(s); e != wantE || !exact(got, want) {
		t.Fatalf("Decode of %s: %v, %d, not %v, %d", short(s), got, e, want, wantE)
	}
	return wantE
}

// treeOf is a value that the library's reader has read, numbers as their texts.
func treeOf(v any) api.Tree {
	switch x := v.(type) {
	case bool:
		return truth(x)
	case stdjson.Number:
		n, _ := num.Parse(x.String())
		return api.Tree{Kind: api.Number, N: n}
	case string:
		return text(x)
	case []any:
		t := list()
		for _, item := range x {
			t.V = append(t.V, treeOf(item))
		}
		return t
	case map[string]any:
		t := named()
		for name := range x {
			t.K = append(t.K, name)
		}
		slices.Sort(t.K)
		for _, name := range t.K {
			t.V = append(t.V, treeOf(x[name]))
		}
		return t
	}
	return null()
}

// holdLibrary holds Decode of a text, in which no name stands twice and no bytes are wrong, against the library's reader.
func holdLibrary(t *testing.T, s string) {
	t.Helper()
	got, e := json.Decode(s)
	if e == api.Limit {
		return
	}
	if stdjson.Valid([]byte(s)) != (e == api.OK) {
		t.Fatalf("Decode of %s: %d, where the library says otherwise", short(s), e)
	}
	if e != api.OK {
		return
	}
	d := stdjson.NewDecoder(strings.NewReader(s))
	d.UseNumber()
	var v any
	if err := d.Decode(&v); err != nil || !exact(got, treeOf(v)) {
		t.Fatalf("Decode of %s: %v, where the library has %v, %v", short(s), got, v, err)
	}
}

// P8.2: each byte at each place, put in, and put in place of what stands there.
func TestDecodeEveryByte(t *testing.T) {
	for _, s := range []string{`[1,{"a":null}]`, "{\"\\n\u00e9\":[true,false]}", ` {"a":-1.5e+30 , "b":"\u0041"} `, `[[],{},""]`} {
		for at := range len(s) + 1 {
			for c := range 256 {
				one := string([]byte{byte(c)})
				for _, changed := range []string{s[:at] + one + s[at:], s[:at] + one + s[min(at+1, len(s)):]} {
					hold(t, changed)
					if utf8.ValidString(changed) && !strings.Contains(s, `"b"`) { // where two names stand, a byte may make them one
						holdLibrary(t, changed)
					}
				}
			}
		}
	}
}

// P8.2: each text there is of a few signs.
func TestDecodeAllShort(t *testing.T) {
	signs := []string{"[", "]", "{", "}", ",", ":", `"a"`, "1", "-", "null", " "}
	counts := map[api.Errno]int{}
	var extend func(s string, left int)
	extend = func(s string, left int) {
		counts[hold(t, s)]++
		if !strings.Contains(s, ":") { // with few signs a name stands twice soon
			holdLibrary(t, s)
		}
		if left == 0 {
			return
		}
		for _, sign := range signs {
			extend(s+sign, left-1)
		}
	}
	extend("", 5)
	if counts[api.OK] < 150 || counts[api.Malformed] < 100000 {
		t.Error(counts)
	}
}

// pieces is a text of a value, as a list of signs.
func pieces(r *rand.Rand, depth int) []string {
	simple := []string{"null", "true", "false", "0", "-0", "1", "-12.50", "1e5", "1E-3", `""`, `"a"`, `"b\n"`, `"\u20ac"`, "\"\u20ac\"", `"\ud834\udd1e"`, `"[,]"`}
	kind := r.Intn(4)
	if depth == 0 || kind == 0 {
		return []string{simple[r.Intn(len(simple))]}
	}
	begin, end := "[", "]"
	if kind > 2 {
		begin, end = "{", "}"
	}
	l := []string{begin}
	for i := range r.Intn(4) {
		if i > 0 {
			l = append(l, ",")
		}
		if begin == "{" {
			names := []string{`"a"`, `"b"`, `"\u0061"`, `""`, "\"\u00e9\"", `"c"`, `"d"`, `"e"`}
			l = append(l, names[r.Intn(len(names))], ":")
		}
		l = append(l, pieces(r, depth-1)...)
	}
	return append(l, end)
}

// disturb takes out a sign, or puts one in, or puts another in its place, or cuts what is behind it.
func disturb(r *rand.Rand, l []string) []string {
	others := []string{"[", "]", "{", "}", ",", ":", `"a"`, "1", "null", "nul", "x", "+", "01", `"`, `"\x"`, "\xff", "\x00", "\v", "1e1201", strings.Repeat("1", 2001), `"` + strings.Repeat("x", 2001) + `"`}
	at, other := r.Intn(len(l)), others[r.Intn(len(others))]
	switch r.Intn(4) {
	case 0:
		return slices.Delete(l, at, at+1)
	case 1:
		return slices.Insert(l, at, other)
	case 2:
		l[at] = other
		return l
	}
	return l[:at]
}

// joined is signs with blanks here and there.
func joined(r *rand.Rand, l []string) string {
	var b strings.Builder
	for _, piece := range l {
		b.WriteString(piece)
		if r.Intn(5) == 0 {
			b.WriteString([]string{" ", "\t", "\n", "\r", "  \r\n"}[r.Intn(5)])
		}
	}
	return b.String()
}

// P8.2: texts of all shapes, alone and where there is little room left, some of them disturbed.
func TestDecodeMixed(t *testing.T) {
	r := rand.New(rand.NewSource(82))
	deep, deepEnd := around(61, "[", `{"":`)
	for _, place := range []struct {
		ahead, behind string
		many          int
		none          api.Errno // what comes of none
	}{
		{"", "", 6000, -1}, {deep, deepEnd, 3000, -1},
		{"[" + strings.Repeat("0,", 298), "]", 600, -1}, {"[" + strings.Repeat("0,", 299), ",1]", 600, api.OK}, {"{" + members(299) + `"":`, "}", 600, -1},
		{rows(1990), "]", 300, -1}, {rows(1997), "]", 300, -1},
	} {
		counts := map[api.Errno]int{}
		for i := range place.many {
			l := pieces(r, 1+i%4)
			if i%2 == 0 {
				l = disturb(r, l)
			}
			counts[hold(t, place.ahead+joined(r, l)+place.behind)]++
		}
		for _, e := range []api.Errno{api.OK, api.Malformed, api.Limit} {
			if e != place.none && counts[e] < place.many/60 {
				t.Errorf("behind %s: %v", short(place.ahead), counts)
			}
		}
	}
}

// P8.2, R1: bytes of no shape at all.
func TestDecodeAnyBytes(t *testing.T) {
	r := rand.New(rand.NewSource(1))
	for i := range 20000 {
		b := make([]byte, r.Intn(40))
		for k := range b {
			if b[k] = byte(r.Intn(256)); i%2 == 0 {
				b[k] = `[]{},:"\u0a1e-+. tn`[r.Intn(19)]
			}
		}
		hold(t, string(b))
	}
}

// scribble writes over all lists of a value, spare room too, those of what is in it first.
func scribble(t *api.Tree) {
	for i := range t.V {
		scribble(&t.V[i])
	}
	for _, l := range [][]uint32{t.N.M[:cap(t.N.M)]} {
		for i := range l {
			l[i] = 0xdeadbeef
		}
	}
	for i, l := 0, t.K[:cap(t.K)]; i < len(l); i++ {
		l[i] = "scribbled"
	}
	clear(t.V[:cap(t.V)])
}

// R3: no two lists of an answer share memory, spare room included, nor do those of two answers.
func TestDecodeAnswersAreNew(t *testing.T) {
	const s = `[12345678901234567890,[],{"b":[1,2,3],"a":{"c":7,"d":[8]}},7,7,[7,[7,7,7,7,7]],{},{"a":7}]`
	kept, e := json.Decode(s)
	want, _ := decodedOf(s)
	if e != api.OK {
		t.Fatal(e)
	}
	for at := range want.V { // one part after the other is written over: the others stay
		got, _ := json.Decode(s)
		part := got.V[at]
		scribble(&part)
		for i := range got.V {
			if i != at && !exact(got.V[i], want.V[i]) {
				t.Errorf("parts %d and %d share memory", at, i)
			}
		}
		if got.V[at].Kind != want.V[at].Kind {
			t.Errorf("part %d shares memory with the list that it is in", at)
		}
	}
	all, _ := json.Decode(s)
	scribble(&all)
	if !exact(kept, want) {
		t.Error("two answers share memory")
	}
	if again, e := json.Decode(s); e != api.OK || !exact(again, want) {
		t.Error("what was answered is kept:", e)
	}
}

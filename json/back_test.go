package json_test

import (
	"math"
	"math/rand"
	"slices"
	"strings"
	"testing"

	"erratum/api"
	"erratum/json"
	"erratum/num"
	"erratum/tree"
)

// thereAndBack holds a value, which may be and has no Bytes, against P8.3, and what is decoded from other ways to write it.
func thereAndBack(t *testing.T, v api.Tree) {
	t.Helper()
	s, e := json.Encode(v)
	if want := textOf(v); len(want) > api.MaxFile {
		if s != "" || e != api.Limit {
			t.Fatalf("%d bytes: %d", len(want), e)
		}
		return
	} else if s != want || e != api.OK {
		t.Fatalf("Encode: %s, %d, not %s", short(s), e, short(want))
	}
	back, e := json.Decode(s)
	if e != api.OK || !tree.Same(back, v) || !exact(back, v) {
		t.Fatalf("%s decoded: %v, %d", short(s), back, e)
	}
	if again, e := json.Encode(back); again != s || e != api.OK {
		t.Fatalf("%s encoded again: %s, %d", short(s), short(again), e)
	}
}

// mixedNumber is a number of any size.
func mixedNumber(r *rand.Rand) api.Tree {
	m := make([]uint32, 1+r.Intn(1+r.Intn(api.MaxLimbs)))
	for i := range m {
		m[i] = r.Uint32() >> r.Intn(32)
	}
	n, _ := num.Make(r.Intn(2) == 0, m, r.Intn(2*api.MaxExp)-api.MaxExp)
	if r.Intn(2) == 0 {
		n, _ = num.Make(r.Intn(2) == 0, m[:1], r.Intn(50)-25)
	}
	return api.Tree{Kind: api.Number, N: n}
}

// mixedText is a text of code points that are escaped, or may seem to be, and others.
func mixedText(r *rand.Rand, most int) string {
	var b strings.Builder
	for range r.Intn(most + 1) {
		switch r.Intn(4) {
		case 0:
			b.WriteRune(rune(r.Intn(128)))
		case 1:
			b.WriteByte("\"\\/\b\f\n\r\tu{}[],:0 "[r.Intn(17)])
		case 2:
			b.WriteRune([]rune{0x80, 0xe9, 0x7ff, 0x800, 0x2028, 0x20ac, 0xd7ff, 0xe000, 0xfffd, 0xffff, 0x10000, 0x10ffff}[r.Intn(12)])
		default:
			b.WriteByte(byte('a' + r.Intn(26)))
		}
	}
	return b.String()
}

// mixedValue is a value of any shape.
func mixedValue(r *rand.Rand, depth int) api.Tree {
	switch kind := r.Intn(8); {
	case kind == 0:
		return null()
	case kind == 1:
		return truth(r.Intn(2) == 0)
	case kind == 2:
		return mixedNumber(r)
	case kind == 3 || depth == 0:
		return text(mixedText(r, 12))
	case kind < 6:
		t := list()
		for range r.Intn(6) {
			t.V = append(t.V, mixedValue(r, depth-1))
		}
		return t
	}
	t := named()
	for range r.Intn(6) {
		t = tree.Set(t, mixedText(r, 4), mixedValue(r, depth-1))
	}
	return t
}

// P8.3
func TestThereAndBackMixed(t *testing.T) {
	r := rand.New(rand.NewSource(83))
	for i := range 4000 {
		thereAndBack(t, mixedValue(r, i%7))
	}
	for range 2000 {
		thereAndBack(t, mixedNumber(r))
	}
	for i := range 300 {
		thereAndBack(t, text(mixedText(r, 2*i)))
	}
}

// P8.3: values with all the room there may be.
func TestThereAndBackLimits(t *testing.T) {
	full := slices.Repeat([]uint32{math.MaxUint32}, api.MaxLimbs)
	for _, v := range []api.Tree{
		nest(63, null(), inArray), nest(63, list(), inArray), nest(63, named(), inObject), list(nest(31, text("a"), func(v api.Tree) api.Tree { return list(one("\n", v)) })),
		crowd(2000), list(many(300, list())...), named(manyNames(300)...), list(many(6, named(manyNames(300)...))...),
		text(strings.Repeat("x", 2000)), text(strings.Repeat("\x00", 2000)), text(strings.Repeat("\U0010ffff", 500)), text(strings.Repeat("\\", 2000)), one(strings.Repeat("\x1f", 2000), text(strings.Repeat("\"", 2000))), list(many(16, text(strings.Repeat("x", 2000)))...),
		{Kind: api.Number, N: api.Num{M: full, E: 1200}}, {Kind: api.Number, N: api.Num{Neg: true, M: full, E: -1200}}, {Kind: api.Number, N: api.Num{M: full}}, {Kind: api.Number, N: api.Num{M: full, E: -880}}, {Kind: api.Number, N: api.Num{Neg: true, M: full, E: -872}}, number("1e1200"), number("-1e-1200"),
		filled(api.MaxFile, null()), filled(api.MaxFile, named("a", "b")), filled(api.MaxFile+1, null()),
	} {
		if !tree.Check(v) {
			t.Fatal("a value that may not be, of kind", v.Kind)
		}
		thereAndBack(t, v)
		if tree.Nodes(v) < api.MaxNodes && tree.Depth(v) < api.MaxDepth {
			thereAndBack(t, list(v))
			thereAndBack(t, one("a", v))
		}
	}
}

// P8.3: what is decoded from another way to write it is encoded as it is.
func TestOtherWays(t *testing.T) {
	for s, want := range map[string]string{
		`{"b":1,"a":[true]}`: `{"a":[true],"b":1}`, ` [ 1.50 , 15e-1 ] `: "[1.5,1.5]", `"\u0041\/\u000a\u001F"`: `"A/\n\u001f"`, `{"\u0062":-0,"a":1E2}`: `{"a":100,"b":0}`, "[-0.0,0e5,1000000000000000000000]": "[0,0,1e+21]", `{"A":1,"\n":2,"":3}`: `{"":3,"\n":2,"A":1}`,
	} {
		v, e := json.Decode(s)
		if e != api.OK {
			t.Errorf("Decode of %s: %d", s, e)
		}
		holdEncode(t, s, v, want, api.OK)
	}
}

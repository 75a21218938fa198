package tree_test

import (
	"math"
	"slices"
	"strconv"
	"strings"
	"testing"

	"erratum/api"
	"erratum/num"
	"erratum/tree"
)

func null() api.Tree { return api.Tree{Kind: api.Null} }

func truth(b bool) api.Tree { return api.Tree{Kind: api.Bool, B: b} }

func number(s string) api.Tree {
	n, e := num.Parse(s)
	if e != api.OK {
		panic(s)
	}
	return api.Tree{Kind: api.Number, N: n}
}

func text(s string) api.Tree { return api.Tree{Kind: api.Text, S: s} }

func blob(s string) api.Tree { return api.Tree{Kind: api.Bytes, S: s} }

func list(l ...api.Tree) api.Tree { return api.Tree{Kind: api.Array, V: l} }

// named is an object of these names, in the order they are given, each with its place as its value.
func named(names ...string) api.Tree {
	t := api.Tree{Kind: api.Object, K: names}
	for i := range names {
		t.V = append(t.V, number(strconv.Itoa(i)))
	}
	return t
}

// one is an object of one member.
func one(name string, v api.Tree) api.Tree {
	return api.Tree{Kind: api.Object, K: []string{name}, V: []api.Tree{v}}
}

// nest is a value within so many others, each made of the one in it.
func nest(many int, v api.Tree, around func(api.Tree) api.Tree) api.Tree {
	for range many {
		v = around(v)
	}
	return v
}

// many is a list of so many nulls.
func many(n int) []api.Tree { return slices.Repeat([]api.Tree{null()}, n) }

// manyNames is so many names that rise.
func manyNames(n int) (names []string) {
	for i := range n {
		names = append(names, strconv.Itoa(100000+i))
	}
	return names
}

// sized is an array that is, with all in it, so many values.
func sized(nodes int) api.Tree {
	t := list()
	nodes--
	for nodes > 0 {
		most := min(nodes, 250)
		t.V = append(t.V, list(many(most-1)...))
		nodes -= most
	}
	return t
}

// kinds is a good value of each kind, with what it has filled.
func kinds() []api.Tree {
	return []api.Tree{null(), truth(true), number("-1.5"), text("a"), blob("\xff"), list(null(), truth(true)), one("a", null())}
}

// expect holds Check of a value against what it must say.
func expect(t *testing.T, what string, v api.Tree, want bool) {
	t.Helper()
	if got := tree.Check(v); got != want {
		t.Errorf("Check of %s: %v", what, got)
	}
}

// everywhere holds Check of a value alone, and of it within good ones.
func everywhere(t *testing.T, what string, v api.Tree, want bool) {
	t.Helper()
	expect(t, what, v, want)
	expect(t, what+", first in an array", list(v, null()), want)
	expect(t, what+", last in an array", list(null(), v), want)
	expect(t, what+", in an object", api.Tree{Kind: api.Object, K: []string{"a", "b", "c"}, V: []api.Tree{null(), v, null()}}, want)
	expect(t, what+", deep", nest(20, v, func(v api.Tree) api.Tree { return list(null(), one("x", v)) }), want)
}

// P5.1
func TestCheckKinds(t *testing.T) {
	for _, v := range kinds() {
		everywhere(t, "a good one of kind "+strconv.Itoa(v.Kind), v, true)
	}
	for _, kind := range []int{0, -1, -7, 8, 9, math.MinInt, math.MaxInt, 1 + 1<<32} {
		everywhere(t, "kind "+strconv.Itoa(kind), api.Tree{Kind: kind}, false)
	}
}

// P5.1
func TestCheckOtherFields(t *testing.T) {
	const ( // which kinds have a field
		onlyBool     = 1 << api.Bool
		onlyNumber   = 1 << api.Number
		textAndBytes = 1<<api.Text | 1<<api.Bytes
		onlyObject   = 1 << api.Object
		within       = 1<<api.Array | 1<<api.Object
	)
	for _, x := range []struct {
		what string
		of   int
		fill func(*api.Tree)
	}{
		{"B", onlyBool, func(v *api.Tree) { v.B = true }},
		{"N", onlyNumber, func(v *api.Tree) { v.N = num.Of(7) }},
		{"N.Neg", onlyNumber, func(v *api.Tree) { v.N.Neg = true }},
		{"N.E", onlyNumber, func(v *api.Tree) { v.N.E = -1 }},
		{"a limb", onlyNumber, func(v *api.Tree) { v.N.M = []uint32{1} }},
		{"S", textAndBytes, func(v *api.Tree) { v.S = "x" }},
		{"K", onlyObject, func(v *api.Tree) { v.K = []string{"x"} }},
		{"an empty name", onlyObject, func(v *api.Tree) { v.K = []string{""} }},
		{"V", within, func(v *api.Tree) { v.V = []api.Tree{null()} }},
		{"K and V", onlyObject, func(v *api.Tree) { v.K, v.V = []string{"x"}, []api.Tree{null()} }},
	} {
		for _, v := range kinds() {
			x.fill(&v)
			if x.of>>v.Kind&1 == 0 {
				everywhere(t, x.what+" of kind "+strconv.Itoa(v.Kind), v, false)
			}
		}
	}
}

// P5.1: nil and an empty list are one.
func TestCheckEmptyLists(t *testing.T) {
	for _, v := range append(kinds(), truth(false), number("0"), text(""), blob(""), list(), named()) {
		if v.N.M == nil {
			v.N.M = make([]uint32, 0, 4)
		}
		if v.K == nil {
			v.K = make([]string, 0, 4)
		}
		if v.V == nil {
			v.V = make([]api.Tree, 0, 4)
		}
		everywhere(t, "kind "+strconv.Itoa(v.Kind)+" with empty lists", v, true)
	}
}

// P5.1
func TestCheckNumbers(t *testing.T) {
	full := slices.Repeat([]uint32{math.MaxUint32}, api.MaxLimbs+1)
	for _, x := range []struct {
		n    api.Num
		want bool
	}{
		{api.Num{}, true}, {num.Of(math.MinInt), true}, {api.Num{M: full[1:]}, true}, {api.Num{M: []uint32{1}, E: api.MaxExp}, true}, {api.Num{M: []uint32{1}, E: -api.MaxExp}, true},
		{api.Num{Neg: true}, false}, {api.Num{E: 1}, false}, {api.Num{M: full}, false}, {api.Num{M: []uint32{1, 0}}, false}, {api.Num{M: []uint32{0}}, false}, {api.Num{M: []uint32{20}}, false}, {api.Num{M: []uint32{1}, E: api.MaxExp + 1}, false}, {api.Num{M: []uint32{1}, E: -api.MaxExp - 1}, false}, {api.Num{M: []uint32{1}, E: math.MinInt}, false},
	} {
		everywhere(t, "a number with E "+strconv.Itoa(x.n.E), api.Tree{Kind: api.Number, N: x.n}, x.want)
	}
}

// P5.1
func TestCheckTexts(t *testing.T) {
	for _, x := range []struct {
		what, s     string
		text, bytes bool
	}{
		{"none", "", true, true},
		{"a nought", "\x00", true, true},
		{"the last code point", "\U0010ffff", true, true},
		{"all the room", strings.Repeat("x", 2000), true, true},
		{"a byte more", strings.Repeat("x", 2001), false, false},
		{"all the room by twos", strings.Repeat("\u00e9", 1000), true, true},
		{"a code point more", strings.Repeat("\u00e9", 1001), false, false},
		{"very much", strings.Repeat("x", 1<<20), false, false},
		{"a wrong byte", "\xff", false, true},
		{"a wrong end", "ab\xe2\x82", false, true},
		{"a surrogate", "\xed\xa0\x80", false, true},
		{"too long a form", "\xc0\x80", false, true},
		{"all the room, with a wrong end", strings.Repeat("x", 1999) + "\x80", false, true},
	} {
		everywhere(t, "a text: "+x.what, text(x.s), x.text)
		everywhere(t, "bytes: "+x.what, blob(x.s), x.bytes)
		everywhere(t, "a name: "+x.what, one(x.s, null()), x.text)
		if x.s != "" {
			everywhere(t, "a last name: "+x.what, named("", x.s), x.text)
		}
	}
}

// P5.1
func TestCheckNames(t *testing.T) {
	for _, x := range []struct {
		names []string
		want  bool
	}{
		{[]string{"", "\x00", "A", "B", "a", "aa", "ab", "b"}, true},
		{[]string{"B", "a"}, true},
		{[]string{"10", "9"}, true},
		{[]string{"a", "a\x00"}, true},
		{[]string{"\uffff", "\U00010000"}, true}, // by bytes, not by halves of code points
		{[]string{"z", "\u00e9"}, true},
		{[]string{"a", "B"}, false},
		{[]string{"9", "10"}, false},
		{[]string{"a\x00", "a"}, false},
		{[]string{"\U00010000", "\uffff"}, false},
		{[]string{"a", "a"}, false},
		{[]string{"", ""}, false},
		{[]string{"a", "c", "b"}, false},
		{[]string{"a", "b", "b"}, false},
		{[]string{"b", "a", "c"}, false},
		{[]string{"a", "b", "a"}, false},
	} {
		everywhere(t, strconv.Quote(strings.Join(x.names, " ")), named(x.names...), x.want)
	}
}

// P5.1
func TestCheckCounts(t *testing.T) {
	for _, x := range []struct {
		items, names int
		want         bool
	}{
		{0, 0, true}, {1, 1, true}, {299, 299, true}, {300, 300, true}, {301, 301, false}, {301, 300, false}, {300, 301, false}, {1, 0, false}, {0, 1, false}, {2, 1, false}, {1, 2, false}, {5000, 5000, false},
	} {
		expect(t, strconv.Itoa(x.names)+" names, "+strconv.Itoa(x.items)+" values", api.Tree{Kind: api.Object, K: manyNames(x.names), V: many(x.items)}, x.want)
		expect(t, strconv.Itoa(x.items)+" items", list(many(x.items)...), x.items <= 300)
	}
	for _, nodes := range []int{1, 2, 300, 1999, 2000, 2001, 2002, 4000} {
		v := sized(nodes)
		if n := countNodes(v); n != nodes {
			t.Fatalf("%d values, not %d", n, nodes)
		}
		expect(t, strconv.Itoa(nodes)+" values", v, nodes <= 2000)
	}
}

// P5.1
func TestCheckDepth(t *testing.T) {
	for what, around := range map[string]func(api.Tree) api.Tree{
		"arrays":  func(v api.Tree) api.Tree { return list(v) },
		"last":    func(v api.Tree) api.Tree { return list(null(), list(), v) },
		"objects": func(v api.Tree) api.Tree { return one("", v) },
		"members": func(v api.Tree) api.Tree {
			return api.Tree{Kind: api.Object, K: []string{"a", "b"}, V: []api.Tree{v, null()}}
		},
	} {
		for _, inmost := range []api.Tree{null(), text("a"), list(), named()} {
			expect(t, what+", 63 around one", nest(63, inmost, around), true)
			expect(t, what+", 64 around one", nest(64, inmost, around), false)
			expect(t, what+", 64 around one, behind another", list(null(), nest(63, inmost, around)), false)
		}
		expect(t, what+", 61 around one that has another", nest(61, list(list(null())), around), true)
		expect(t, what+", 62 around one that has another", nest(62, list(list(null())), around), false)
	}
}

// P5.1, R1
func TestCheckEnds(t *testing.T) {
	for _, kind := range []int{api.Array, api.Object} {
		within := make([]api.Tree, 2)
		for i := range within {
			within[i] = api.Tree{Kind: kind, V: within}
			if kind == api.Object {
				within[i].K = []string{"a", "b"}
			}
		}
		expect(t, "one that is within itself", within[0], false)
	}
	expect(t, "one that doubles 60 times", nest(60, null(), func(v api.Tree) api.Tree { return list(v, v) }), false)
	wide := nest(6, null(), func(v api.Tree) api.Tree { return list(slices.Repeat([]api.Tree{v}, 300)...) })
	expect(t, "one of 300 times 300 and so on", wide, false)
	expect(t, "one that is very deep", nest(1000000, null(), func(v api.Tree) api.Tree { return list(v) }), false)
}

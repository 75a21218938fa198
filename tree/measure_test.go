package tree_test

import (
	"math"
	"math/rand"
	"runtime/debug"
	"slices"
	"strings"
	"testing"

	"erratum/api"
	"erratum/num"
	"erratum/tree"
)

// countNodes is what Nodes must answer.
func countNodes(t api.Tree) int {
	n := 1
	for _, v := range t.V {
		n += countNodes(v)
	}
	return n
}

// countDepth is what Depth must answer.
func countDepth(t api.Tree) int {
	deepest := 0
	for _, v := range t.V {
		deepest = max(deepest, countDepth(v))
	}
	return 1 + deepest
}

// countWeight is what Weight must answer.
func countWeight(t api.Tree) int {
	n := 1
	switch t.Kind {
	case api.Number:
		n += len(t.N.M)
	case api.Text, api.Bytes:
		n += len(t.S)
	}
	for _, v := range t.V {
		n += countWeight(v)
	}
	return n
}

// equal is what Same must answer.
func equal(a, b api.Tree) bool {
	if a.Kind != b.Kind {
		return false
	}
	switch a.Kind {
	case api.Bool:
		return a.B == b.B
	case api.Number:
		return num.Same(a.N, b.N)
	case api.Text, api.Bytes:
		return a.S == b.S
	case api.Array:
		return slices.EqualFunc(a.V, b.V, equal)
	case api.Object:
		return slices.Equal(a.K, b.K) && slices.EqualFunc(a.V, b.V, equal)
	}
	return true
}

// mixed is a value of few shapes, so that two of them are the same now and then; wild ones are of any kind, with any fields filled.
func mixed(r *rand.Rand, depth int, wild bool) api.Tree {
	v := api.Tree{Kind: 1 + r.Intn(7)}
	if wild {
		v.Kind = r.Intn(9)
	}
	if depth == 0 && v.Kind >= api.Array {
		v.Kind = api.Null
	}
	if wild || v.Kind == api.Bool {
		v.B = r.Intn(2) == 1
	}
	if wild || v.Kind == api.Number {
		v.N = num.Of([]int{0, 1, -1, 10, 1 << 40}[r.Intn(5)])
	}
	if wild || v.Kind == api.Text || v.Kind == api.Bytes {
		v.S = []string{"", "a", "ab"}[r.Intn(3)]
	}
	if depth > 0 && (wild || v.Kind >= api.Array) {
		for i := range r.Intn(4) {
			v.V = append(v.V, mixed(r, depth-1, wild))
			if wild || v.Kind == api.Object {
				v.K = append(v.K, string(rune('a'+2*i+r.Intn(2))))
			}
		}
	}
	return v
}

// samples are values of all shapes.
func samples(many int) (l []api.Tree) {
	r := rand.New(rand.NewSource(5))
	for i := range many {
		l = append(l, mixed(r, i%4, i%3 == 0))
	}
	return l
}

// P5.2
func TestSameNamed(t *testing.T) {
	limb := api.Num{M: []uint32{1}}
	l := []api.Tree{
		{}, {Kind: -1}, {Kind: 8}, null(), truth(false), truth(true),
		number("0"), number("1"), number("-1"), number("10"), number("0.1"), number("1.5"), number("4294967297"),
		text(""), text("a"), text("ab"), text("A"), text("\u00e9"), text("e\u0301"), text("\xff"), blob(""), blob("a"), blob("ab"), blob("\xff"),
		list(), list(null()), list(null(), null()), list(list()), list(list(), null()), list(null(), list()), list(list(null())), list(truth(false)), list(number("1"), number("2")), list(number("2"), number("1")),
		named(), named("a"), named("b"), named(""), named("a", "b"), named("b", "a"), named("a", "c"), one("a", null()), one("a", one("a", null())), one("a", one("b", null())),
		{Kind: api.Object, K: []string{"a"}}, {Kind: api.Object, K: []string{"a", "b"}, V: many(1)}, {Kind: api.Object, V: many(1)}, {Kind: api.Object, K: []string{"a"}, V: many(2)},
	}
	for i, a := range l {
		for k, b := range l {
			if got := tree.Same(a, b); got != (i == k) {
				t.Errorf("Same of %v and %v: %v", a, b, got)
			}
		}
	}
	for i, x := range []struct {
		a, b api.Tree
		want bool
	}{
		{number("1.50"), number("15e-1"), true},
		{number("0"), number("-0.00e7"), true},
		{number("0"), api.Tree{Kind: api.Number, N: api.Num{M: []uint32{10}}}, true}, // num takes what may not be as 0
		{number("10"), api.Tree{Kind: api.Number, N: api.Num{M: []uint32{10}}}, false},
		{api.Tree{Kind: api.Number, N: limb}, api.Tree{Kind: api.Number, N: limb, B: true, S: "x", K: []string{"x"}, V: many(1)}, true},
		{null(), api.Tree{Kind: api.Null, B: true, N: limb, S: "x", K: []string{"x"}, V: many(1)}, true},
		{truth(true), api.Tree{Kind: api.Bool, B: true, N: limb, S: "x", K: []string{"x"}, V: many(1)}, true},
		{text("a"), api.Tree{Kind: api.Text, S: "a", B: true, N: limb, K: []string{"x"}, V: many(1)}, true},
		{blob("a"), api.Tree{Kind: api.Bytes, S: "a", B: true, N: limb, K: []string{"x"}, V: many(1)}, true},
		{list(null()), api.Tree{Kind: api.Array, V: many(1), B: true, N: limb, S: "x", K: []string{"x"}}, true},
		{one("a", null()), api.Tree{Kind: api.Object, K: []string{"a"}, V: many(1), B: true, N: limb, S: "x"}, true},
		{api.Tree{Kind: 9}, api.Tree{Kind: 9, B: true, N: limb, S: "x", K: []string{"x"}, V: many(1)}, true},
		{list(), api.Tree{Kind: api.Array, V: []api.Tree{}, K: []string{}}, true},
		{named(), api.Tree{Kind: api.Object, V: []api.Tree{}, K: []string{}}, true},
	} {
		if tree.Same(x.a, x.b) != x.want || tree.Same(x.b, x.a) != x.want {
			t.Errorf("pair %d: %v and %v", i, x.a, x.b)
		}
	}
}

// P5.2
func TestSameMixed(t *testing.T) {
	l := samples(600)
	same := 0
	for i, a := range l {
		for k, b := range l {
			want := equal(a, b)
			if got := tree.Same(a, b); got != want {
				t.Fatalf("Same of %v and %v: %v", a, b, got)
			}
			if want && i != k {
				same++
			}
		}
	}
	if same < 1000 {
		t.Errorf("only %d pairs were the same", same)
	}
}

// P5.2
func TestMeasuresNamed(t *testing.T) {
	for i, x := range []struct {
		v                    api.Tree
		weight, nodes, depth int
	}{
		{api.Tree{}, 1, 1, 1}, {null(), 1, 1, 1}, {truth(true), 1, 1, 1},
		{number("0"), 1, 1, 1}, {number("1"), 2, 1, 1}, {number("-4294967295"), 2, 1, 1}, {number("4294967296"), 3, 1, 1}, {number("1e1200"), 2, 1, 1},
		{text(""), 1, 1, 1}, {text("xy"), 3, 1, 1}, {text("\u20ac"), 4, 1, 1}, {blob("\xff\x00"), 3, 1, 1}, {text(strings.Repeat("x", 2001)), 2002, 1, 1},
		{list(), 1, 1, 1}, {list(null()), 2, 2, 2}, {list(list(), list(list(null()))), 5, 5, 4}, {list(list(list(null())), list()), 5, 5, 4},
		{named(), 1, 1, 1}, {one("a long name", null()), 2, 2, 2}, {one("a", list(number("1"), text("xy"))), 7, 4, 3},
		{api.Tree{Kind: api.Text, S: "ab", V: []api.Tree{null(), list(null())}}, 6, 4, 3},
		{api.Tree{Kind: 77, B: true, N: num.Of(5), S: "ab", K: []string{"a"}, V: []api.Tree{number("5")}}, 3, 2, 2},
		{api.Tree{Kind: api.Array, N: num.Of(5), S: "ab"}, 1, 1, 1},
		{api.Tree{Kind: api.Number, N: api.Num{M: []uint32{0, 0, 0}, E: math.MinInt}}, 4, 1, 1},
		{api.Tree{Kind: api.Object, K: []string{"a", "b"}, V: []api.Tree{null()}}, 2, 2, 2}, {api.Tree{Kind: api.Object, V: many(3)}, 4, 4, 2},
		{sized(4000), 4000, 4000, 3}, {nest(100, blob("x"), func(v api.Tree) api.Tree { return list(v) }), 102, 101, 101},
	} {
		if w, n, d := tree.Weight(x.v), tree.Nodes(x.v), tree.Depth(x.v); w != x.weight || n != x.nodes || d != x.depth {
			t.Errorf("value %d: weight %d, nodes %d, depth %d", i, w, n, d)
		}
	}
}

// P5.2
func TestMeasuresMixed(t *testing.T) {
	for _, v := range samples(3000) {
		if w, n, d := tree.Weight(v), tree.Nodes(v), tree.Depth(v); w != countWeight(v) || n != countNodes(v) || d != countDepth(v) {
			t.Fatalf("%v: weight %d, nodes %d, depth %d", v, w, n, d)
		}
	}
}

// P5.2, R1: no depth is too great. The stack is held small, so that a call for each level would show.
func TestVeryDeep(t *testing.T) {
	defer debug.SetMaxStack(debug.SetMaxStack(16 << 20))
	const levels = 500000
	tower := func(v api.Tree) api.Tree {
		return nest(levels, v, func(v api.Tree) api.Tree { return list(v) })
	}
	a, b, c := tower(null()), tower(null()), tower(truth(true))
	if tree.Nodes(a) != levels+1 || tree.Depth(a) != levels+1 || tree.Weight(c) != levels+1 || tree.Check(a) {
		t.Error("a very deep value")
	}
	if !tree.Same(a, b) || tree.Same(a, c) {
		t.Error("two very deep values")
	}
}

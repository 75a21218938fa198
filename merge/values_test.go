package merge_test

import (
	"maps"
	"math/rand"
	"slices"
	"strconv"

	"erratum/api"
	"erratum/num"
)

func null() api.Tree { return api.Tree{Kind: api.Null} }

func number(n int) api.Tree { return api.Tree{Kind: api.Number, N: num.Of(n)} }

func text(s string) api.Tree { return api.Tree{Kind: api.Text, S: s} }

func blob(s string) api.Tree { return api.Tree{Kind: api.Bytes, S: s} }

func truth(b bool) api.Tree { return api.Tree{Kind: api.Bool, B: b} }

func list(l ...api.Tree) api.Tree { return api.Tree{Kind: api.Array, V: l} }

// object is of names and values by turns.
func object(l ...any) api.Tree {
	t := api.Tree{Kind: api.Object}
	for i := 0; i < len(l); i += 2 {
		t.K = append(t.K, l[i].(string))
		t.V = append(t.V, l[i+1].(api.Tree))
	}
	return t
}

// many is a list of so many of one value.
func many(n int, v api.Tree) []api.Tree { return slices.Repeat([]api.Tree{v}, n) }

// wide is an object of so many members of one value, with names of five digits from a number on.
func wide(from, n int, v api.Tree) api.Tree {
	t := api.Tree{Kind: api.Object, V: many(n, v)}
	for i := range n {
		t.K = append(t.K, strconv.Itoa(10000+from+i))
	}
	return t
}

// crowd is an array that is, with all in it, so many values.
func crowd(nodes int) api.Tree {
	t := list()
	for nodes--; nodes > 0; {
		most := min(nodes, 250)
		t.V = append(t.V, list(many(most-1, null())...))
		nodes -= most
	}
	return t
}

// nest is a value in so many others, each made of the one in it.
func nest(n int, v api.Tree, around func(api.Tree) api.Tree) api.Tree {
	for range n {
		v = around(v)
	}
	return v
}

// inA is a value as the one member of an object.
func inA(v api.Tree) api.Tree {
	return api.Tree{Kind: api.Object, K: []string{"a"}, V: []api.Tree{v}}
}

// inArray is a value as the one item of an array.
func inArray(v api.Tree) api.Tree { return list(v) }

// filled is t of another kind, with fields that are none of an array's or object's.
func filled(kind int, t api.Tree) api.Tree {
	t.Kind, t.B, t.N, t.S = kind, true, num.Of(-7), "x"
	return t
}

// cut is t with so many names and values.
func cut(t api.Tree, names, values int) api.Tree {
	t.K, t.V = t.K[:names], t.V[:values]
	return t
}

// exact tells whether all fields of two are the same.
func exact(a, b api.Tree) bool {
	return a.Kind == b.Kind && a.B == b.B && a.S == b.S && a.N.Neg == b.N.Neg && a.N.E == b.N.E && slices.Equal(a.N.M, b.N.M) && slices.Equal(a.K, b.K) && slices.EqualFunc(a.V, b.V, exact)
}

// copied is a value that shares no memory with the first one.
func copied(t api.Tree) api.Tree {
	t.K, t.V, t.N.M = slices.Clone(t.K), slices.Clone(t.V), slices.Clone(t.N.M)
	for i := range t.V {
		t.V[i] = copied(t.V[i])
	}
	return t
}

// noObjects are values that have no members, and odd ones of other kinds that have names.
func noObjects() []api.Tree {
	l := []api.Tree{{}, null(), truth(false), truth(true), number(0), number(-7), text(""), text("ab"), blob("\xff"), list(), list(null()), list(object("a", null())), list(inA(number(1)), inA(null()))}
	for _, kind := range []int{-1, 0, api.Null, api.Bool, api.Number, api.Text, api.Bytes, api.Array, 8, 1<<32 + api.Object} {
		l = append(l, filled(kind, object("a", null(), "b", object("c", null()))))
	}
	return l
}

// mixed is a value of few shapes and names, often with objects in it.
func mixed(r *rand.Rand, depth int) api.Tree {
	switch kind := r.Intn(8); {
	case kind < 2 || depth == 0:
		return []api.Tree{null(), null(), number(r.Intn(3)), text("x"), blob("x"), truth(true)}[r.Intn(6)]
	case kind == 2:
		t := list()
		for range r.Intn(3) {
			t.V = append(t.V, mixed(r, depth-1))
		}
		return t
	}
	t := object()
	for _, name := range []string{"", "0", "a", "a\x00", "b/", "\u20ac"} {
		if r.Intn(2) == 0 {
			t.K = append(t.K, name)
			t.V = append(t.V, mixed(r, depth-1))
		}
	}
	return t
}

// wild is a value that need not be one: of any kind, with any fields filled, names in any order and more or fewer of them than values.
func wild(r *rand.Rand, depth int) api.Tree {
	t := api.Tree{Kind: []int{api.Object, api.Object, api.Object, api.Null, api.Array, api.Text, 0, -1, 9}[r.Intn(9)]}
	if r.Intn(3) == 0 {
		t = filled(t.Kind, t)
	}
	for range r.Intn(4) {
		t.K = append(t.K, []string{"", "a", "b", "c", "\xff"}[r.Intn(5)])
	}
	for range r.Intn(4) {
		if depth > 0 {
			t.V = append(t.V, wild(r, depth-1))
		}
	}
	return t
}

// small are values of two names and few others, so many objects deep: at a depth of 1 all there are.
func small(depth int) []api.Tree {
	l := []api.Tree{null(), number(1), list(inA(null())), text("a")}
	if depth == 0 {
		return l
	}
	within := small(depth - 1)
	l = append(l, object())
	for i, a := range within {
		l = append(l, object("a", a), object("b", a))
		for k, b := range within {
			if depth == 1 || i < 8 || k < 8 { // the deeper ones are too many
				l = append(l, object("a", a, "b", b))
			}
		}
	}
	return l
}

// names is an object of the tests' own, which is turned where it is; other values are leaves.
type names map[string]any

// grown is a value as one of the tests' own. No two share anything.
func grown(t api.Tree) any {
	if t.Kind != api.Object {
		return t
	}
	n := names{}
	for i, name := range t.K {
		n[name] = grown(t.V[i])
	}
	return n
}

// value is the value that one of the tests' own is.
func value(v any) api.Tree {
	n, ok := v.(names)
	if !ok {
		return v.(api.Tree)
	}
	t := object()
	for _, name := range slices.Sorted(maps.Keys(n)) {
		t.K = append(t.K, name)
		t.V = append(t.V, value(n[name]))
	}
	return t
}

// merged is one of the tests' own with another one merged into it.
func merged(onto, with any) any {
	p, ok := with.(names)
	if !ok {
		return with
	}
	t, ok := onto.(names)
	if !ok {
		t = names{}
	}
	for name, v := range p {
		if leaf, ok := v.(api.Tree); ok && leaf.Kind == api.Null {
			delete(t, name)
			continue
		}
		t[name] = merged(t[name], v)
	}
	return t
}

// model is what Merge must answer of values that may be.
func model(t, p api.Tree) api.Tree { return value(merged(grown(t), grown(p))) }

// takesAway tells whether there is a Null in one of the tests' own.
func takesAway(v any) bool {
	n, ok := v.(names)
	if !ok {
		return false
	}
	for _, v := range n {
		if leaf, ok := v.(api.Tree); ok && leaf.Kind == api.Null || takesAway(v) {
			return true
		}
	}
	return false
}

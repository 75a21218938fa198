package pointer_test

import (
	"math/rand"
	"slices"
	"strconv"
	"strings"

	"erratum/api"
	"erratum/num"
)

func null() api.Tree { return api.Tree{Kind: api.Null} }

func truth(b bool) api.Tree { return api.Tree{Kind: api.Bool, B: b} }

func number(s string) api.Tree {
	n, e := num.Parse(s)
	if e != api.OK {
		panic(s)
	}
	return api.Tree{Kind: api.Number, N: n}
}

func text(s string) api.Tree { return api.Tree{Kind: api.Text, S: s} }

func blob(s string) api.Tree { return api.Tree{Kind: api.Bytes, S: s} }

func list(l ...api.Tree) api.Tree { return api.Tree{Kind: api.Array, V: l} }

// object is of names and values by turns.
func object(l ...any) api.Tree {
	t := api.Tree{Kind: api.Object}
	for i := 0; i < len(l); i += 2 {
		t.K = append(t.K, l[i].(string))
		t.V = append(t.V, l[i+1].(api.Tree))
	}
	return t
}

// numbers is a list of so many numbers, each its own place.
func numbers(n int) (l []api.Tree) {
	for i := range n {
		l = append(l, number(strconv.Itoa(i)))
	}
	return l
}

// filled is t of another kind, with fields that are none of an array's or object's.
func filled(kind int, t api.Tree) api.Tree {
	t.Kind, t.B, t.N, t.S = kind, true, num.Of(-7), "x"
	return t
}

// cut is t with so many names and values.
func cut(t api.Tree, names, values int) api.Tree {
	t.K, t.V = t.K[:names], t.V[:values]
	return t
}

// exact tells whether all fields of two are the same.
func exact(a, b api.Tree) bool {
	return a.Kind == b.Kind && a.B == b.B && a.S == b.S && a.N.Neg == b.N.Neg && a.N.E == b.N.E && slices.Equal(a.N.M, b.N.M) && slices.Equal(a.K, b.K) && slices.EqualFunc(a.V, b.V, exact)
}

// copied is a value that shares no memory with the first one.
func copied(t api.Tree) api.Tree {
	t.K, t.V, t.N.M = slices.Clone(t.K), slices.Clone(t.V), slices.Clone(t.N.M)
	for i := range t.V {
		t.V[i] = copied(t.V[i])
	}
	return t
}

// spoil writes over all lists of a value, spare room too.
func spoil(t api.Tree) {
	for _, v := range t.V {
		spoil(v)
	}
	clear(t.K[:cap(t.K)])
	clear(t.V[:cap(t.V)])
	clear(t.N.M[:cap(t.N.M)])
}

// odd are tokens that lead nowhere in an array, and may be names.
func odd() []string {
	return []string{"", "-", "-0", "-1", "+1", "00", "01", "0000", "1 ", " 1", "1.0", "1e0", "0x1", "a", "\u0661", "\u00b2", "\xff", "1\x00", "10000", "00000", strconv.Itoa(1 << 32), strings.Repeat("1", 20), "18446744073709551616", "18446744073709551617"}
}

// mixed is a value of few shapes and names.
func mixed(r *rand.Rand, depth int) api.Tree {
	switch kind := r.Intn(6); {
	case kind == 0 || depth == 0:
		return numbers(20)[r.Intn(20)]
	case kind < 3:
		t := list()
		for range r.Intn(5) {
			t.V = append(t.V, mixed(r, depth-1))
		}
		return t
	}
	t := object()
	for _, name := range []string{"", "-", "0", "1", "a", "b/", "~"} {
		if r.Intn(2) == 0 {
			t.K = append(t.K, name)
			t.V = append(t.V, mixed(r, depth-1))
		}
	}
	return t
}

// spot is a path and the value that it leads to.
type spot struct {
	path []string
	v    api.Tree
}

// spots are all values in one, each ahead of those in it.
func spots(t api.Tree, path []string) []spot {
	l := []spot{{path, t}}
	for i, v := range t.V {
		token := strconv.Itoa(i)
		if t.Kind == api.Object {
			token = t.K[i]
		}
		l = append(l, spots(v, append(slices.Clone(path), token))...)
	}
	return l
}

package ops_test

import (
	"math/rand"
	"slices"
	"strconv"
	"strings"

	"erratum/api"
	"erratum/num"
	"erratum/pointer"
)

func null() api.Tree { return api.Tree{Kind: api.Null} }

func number(n int) api.Tree { return api.Tree{Kind: api.Number, N: num.Of(n)} }

func text(s string) api.Tree { return api.Tree{Kind: api.Text, S: s} }

func blob(s string) api.Tree { return api.Tree{Kind: api.Bytes, S: s} }

func list(l ...api.Tree) api.Tree { return api.Tree{Kind: api.Array, V: l} }

// object is of names and values by turns.
func object(l ...any) api.Tree {
	t := api.Tree{Kind: api.Object}
	for i := 0; i < len(l); i += 2 {
		t.K = append(t.K, l[i].(string))
		t.V = append(t.V, l[i+1].(api.Tree))
	}
	return t
}

// many is a list of so many of one value.
func many(n int, v api.Tree) []api.Tree { return slices.Repeat([]api.Tree{v}, n) }

// wide is an object of so many members with names of five digits.
func wide(n int) api.Tree {
	t := api.Tree{Kind: api.Object, V: many(n, null())}
	for i := range n {
		t.K = append(t.K, strconv.Itoa(10000+i))
	}
	return t
}

// deep is a value in so many arrays.
func deep(n int, v api.Tree) api.Tree {
	for range n {
		v = list(v)
	}
	return v
}

// crowd is an array that is, with all in it, so many values.
func crowd(nodes int) api.Tree {
	t := list()
	for nodes--; nodes > 0; {
		most := min(nodes, 250)
		t.V = append(t.V, list(many(most-1, null())...))
		nodes -= most
	}
	return t
}

// filled is t of another kind, with fields that are none of an array's or object's.
func filled(kind int, t api.Tree) api.Tree {
	t.Kind, t.B, t.N, t.S = kind, true, num.Of(-7), "x"
	return t
}

// exact tells whether all fields of two are the same.
func exact(a, b api.Tree) bool {
	return a.Kind == b.Kind && a.B == b.B && a.S == b.S && a.N.Neg == b.N.Neg && a.N.E == b.N.E && slices.Equal(a.N.M, b.N.M) && slices.Equal(a.K, b.K) && slices.EqualFunc(a.V, b.V, exact)
}

// copied is a value that shares no memory with the first one.
func copied(t api.Tree) api.Tree {
	t.K, t.V, t.N.M = slices.Clone(t.K), slices.Clone(t.V), slices.Clone(t.N.M)
	for i := range t.V {
		t.V[i] = copied(t.V[i])
	}
	return t
}

// path is the tokens of a text.
func path(s string) []string {
	p, e := pointer.Parse(s)
	if e != api.OK {
		panic(s)
	}
	return p
}

// Operations by texts of paths.
func add(at string, v api.Tree) api.Op { return api.Op{Op: api.Add, Path: path(at), Value: v} }

func remove(at string) api.Op { return api.Op{Op: api.Remove, Path: path(at)} }

func replace(at string, v api.Tree) api.Op { return api.Op{Op: api.Replace, Path: path(at), Value: v} }

func move(from, at string) api.Op { return api.Op{Op: api.Move, Path: path(at), From: path(from)} }

func duplicate(from, at string) api.Op { return api.Op{Op: api.Copy, Path: path(at), From: path(from)} }

func test(at string, v api.Tree) api.Op { return api.Op{Op: api.Test, Path: path(at), Value: v} }

// mixed is a value of few shapes and names.
func mixed(r *rand.Rand, depth int) api.Tree {
	switch kind := r.Intn(7); {
	case kind == 0 || depth == 0:
		return []api.Tree{null(), number(r.Intn(3)), text("x"), blob("x"), {Kind: api.Bool, B: true}}[r.Intn(5)]
	case kind < 4:
		t := list()
		for range r.Intn(4) {
			t.V = append(t.V, mixed(r, depth-1))
		}
		return t
	}
	t := object()
	for _, name := range []string{"", "-", "0", "1", "a", "b/", "~"} {
		if r.Intn(3) == 0 {
			t.K = append(t.K, name)
			t.V = append(t.V, mixed(r, depth-1))
		}
	}
	return t
}

// paths are those to all values in one, and to some places where none is.
func paths(t api.Tree, at []string) [][]string {
	l := [][]string{at}
	tokens := []string{"-", "0", "1", "01", "a", "c", "", strconv.Itoa(len(t.V)), strconv.Itoa(len(t.V) + 1)}
	for i, v := range t.V {
		token := strconv.Itoa(i)
		if t.Kind == api.Object {
			token = t.K[i]
		}
		l = append(l, paths(v, append(slices.Clone(at), token))...)
		tokens = slices.DeleteFunc(tokens, func(other string) bool { return other == token })
	}
	for _, token := range tokens {
		l = append(l, append(slices.Clone(at), token))
	}
	return l
}

// told is an operation as a text for a fault's report.
func told(o api.Op) string {
	names := []string{"none", "add", "remove", "replace", "move", "copy", "test"}
	return names[o.Op] + " " + strconv.Quote(strings.Join(o.Path, "|")) + " from " + strconv.Quote(strings.Join(o.From, "|"))
}

package merge_test

import (
	"math/rand"
	"runtime/debug"
	"testing"

	"erratum/api"
	"erratum/merge"
	"erratum/tree"
)

// hold holds Merge against what it must answer.
func hold(t *testing.T, of, p, want api.Tree) {
	t.Helper()
	was, with := copied(of), copied(p)
	if got := merge.Merge(of, p); !exact(got, want) {
		t.Errorf("%v merged into %v: %v, not %v", p, of, got, want)
	}
	if !exact(of, was) || !exact(p, with) {
		t.Errorf("%v merged into %v turned one", with, was)
	}
}

// P16.1: what is no Object is the answer, whatever it is merged into.
func TestMergeOfNoObject(t *testing.T) {
	for _, p := range noObjects() {
		for _, of := range append(noObjects(), object(), inA(number(1)), filled(api.Object, inA(null()))) {
			hold(t, of, p, p)
		}
	}
}

// P16.1: what is no Object counts as one without members.
func TestMergeIntoNoObject(t *testing.T) {
	for _, of := range noObjects() {
		hold(t, of, object(), object())
		hold(t, of, inA(null()), object())
		hold(t, of, object("c", number(1), "d", null()), object("c", number(1)))
		hold(t, of, inA(object("b", null(), "c", object("d", null()))), inA(object("c", object())))
		hold(t, inA(of), inA(object("b", number(1))), inA(object("b", number(1))))
		hold(t, inA(of), inA(object("b", null())), inA(object()))
		hold(t, inA(of), object(), inA(of))
		hold(t, inA(of), object("b", null()), inA(of))
		hold(t, inA(of), object("b", of), func() api.Tree {
			if of.Kind == api.Null {
				return inA(of)
			}
			return object("a", of, "b", of)
		}())
	}
}

// P16.1
func TestMergeMembers(t *testing.T) {
	one, two := number(1), number(2)
	v := object("a", one, "c", object("d", one, "f", null()), "e", list(one, object("g", null())))
	d := v.V[1]
	for _, x := range []struct{ p, want api.Tree }{
		{object(), v},
		{object("a", two), object("a", two, "c", d, "e", v.V[2])},
		{object("a", null()), object("c", d, "e", v.V[2])},
		{object("c", null()), object("a", one, "e", v.V[2])},
		{object("e", null()), object("a", one, "c", d)},
		{object("a", null(), "c", null(), "e", null()), object()},
		{object("", null(), "b", null(), "z", null()), v},
		{object("", two), object("", two, "a", one, "c", d, "e", v.V[2])},
		{object("b", two), object("a", one, "b", two, "c", d, "e", v.V[2])},
		{object("f", two), object("a", one, "c", d, "e", v.V[2], "f", two)},
		{object("A", two, "aa", two, "c\x00", two), object("A", two, "a", one, "aa", two, "c", d, "c\x00", two, "e", v.V[2])},
		{object("\u20ac", two, "\U00010000", null()), object("a", one, "c", d, "e", v.V[2], "\u20ac", two)},
		{object("c", object()), v},
		{object("c", object("d", null())), object("a", one, "c", object("f", null()), "e", v.V[2])},
		{object("c", object("f", null())), object("a", one, "c", object("d", one), "e", v.V[2])},
		{object("c", object("d", null(), "f", null())), object("a", one, "c", object(), "e", v.V[2])},
		{object("c", object("d", object("x", null(), "y", two))), object("a", one, "c", object("d", object("y", two), "f", null()), "e", v.V[2])},
		{object("c", object("f", object())), object("a", one, "c", object("d", one, "f", object()), "e", v.V[2])},
		{object("c", list()), object("a", one, "c", list(), "e", v.V[2])},
		{object("e", object()), object("a", one, "c", d, "e", object())},
		{object("e", object("0", null(), "1", two)), object("a", one, "c", d, "e", object("1", two))},
		{object("e", list(null(), inA(null()))), object("a", one, "c", d, "e", list(null(), inA(null())))}, // in an Array Null is a value
		{object("b", object("x", null(), "y", object("z", null())), "c", two, "d", null()), object("a", one, "b", object("y", object()), "c", two, "e", v.V[2])},
		{inA(truth(false)), object("a", truth(false), "c", d, "e", v.V[2])},
		{inA(text("")), object("a", text(""), "c", d, "e", v.V[2])},
		{inA(number(0)), object("a", number(0), "c", d, "e", v.V[2])},
		{inA(blob("")), object("a", blob(""), "c", d, "e", v.V[2])},
	} {
		hold(t, v, x.p, x.want)
		hold(t, object("", v, "x", one), object("", x.p), object("", x.want, "x", one))
		hold(t, object("0", object("x", v)), object("0", object("x", x.p)), object("0", object("x", x.want)))
		hold(t, list(v), list(x.p), list(x.p))
	}
	hold(t, object("a", one, "b", object("c", two)), object("a", null(), "b", object("d", number(3))), object("b", object("c", two, "d", number(3)))) // the chapter's example
	hold(t, wide(0, 300, one), wide(100, 300, two), object(append(pairs(wide(0, 100, one)), pairs(wide(100, 300, two))...)...))
	hold(t, wide(0, 300, one), wide(100, 100, null()), object(append(pairs(wide(0, 100, one)), pairs(wide(200, 100, one))...)...))
}

// pairs are an object's names and values by turns.
func pairs(t api.Tree) (l []any) {
	for i, name := range t.K {
		l = append(l, name, t.V[i])
	}
	return l
}

// P16.1, P16.3: small ones, each into each other, against the tests' own; a second time nothing more is turned.
func TestMergeSmall(t *testing.T) {
	l := small(2)
	if len(l) < 200 {
		t.Fatalf("only %d", len(l))
	}
	for _, of := range l {
		for _, p := range l {
			want := model(of, p)
			got := merge.Merge(of, p)
			if !exact(got, want) {
				t.Fatalf("%v merged into %v: %v, not %v", p, of, got, want)
			}
			if again := merge.Merge(got, p); !exact(again, want) {
				t.Fatalf("%v merged into %v a second time: %v", p, of, again)
			}
		}
	}
}

// P16.1, P16.3
func TestMergeMixed(t *testing.T) {
	r := rand.New(rand.NewSource(16))
	turned := 0
	for range 20000 {
		of, p := mixed(r, 4), mixed(r, 4)
		was, with := copied(of), copied(p)
		want := model(of, p)
		got := merge.Merge(of, p)
		if !exact(got, want) || !exact(merge.Merge(got, p), want) {
			t.Fatalf("%v merged into %v: %v, not %v", p, of, got, want)
		}
		if !exact(of, was) || !exact(p, with) {
			t.Fatalf("%v merged into %v turned one", with, was)
		}
		if !tree.Check(got) {
			t.Fatalf("%v may not be", got)
		}
		if of.Kind == api.Object && p.Kind == api.Object && !exact(got, of) && !exact(got, p) {
			turned++
		}
	}
	if turned < 5000 {
		t.Errorf("only %d were neither the one nor the other", turned)
	}
}

// P16.1: of objects that may not be: as tree's Member, Set and Unset take them, one member after the other.
func TestMergeOdd(t *testing.T) {
	one, two, three := number(1), number(2), number(3)
	ab := object("a", one, "b", two)
	for _, x := range []struct{ of, p, want api.Tree }{
		{cut(ab, 2, 1), object("b", three), object("a", one, "b", three)}, {cut(ab, 2, 1), object("c", three), object("a", one, "c", three)}, {cut(ab, 1, 2), object("b", three), object("a", one, "b", three)}, {cut(ab, 1, 2), inA(null()), object()}, {cut(ab, 2, 1), inA(null()), object()},
		{cut(ab, 2, 1), object("b", null()), cut(ab, 2, 1)}, {cut(ab, 1, 2), object(), cut(ab, 1, 2)}, {cut(ab, 0, 2), object("a", null()), cut(ab, 0, 2)}, // what stays is as it is
		{cut(inA(object("b", one)), 0, 1), inA(object("c", two)), inA(object("c", two))}, // a value without a name is no member
		{one, cut(ab, 2, 1), object("a", one)}, {one, cut(ab, 1, 2), object("a", one)}, {one, cut(ab, 2, 0), object()}, {one, cut(ab, 0, 2), object()}, {ab, cut(object("a", null(), "b", null()), 2, 1), object("b", two)}, {ab, cut(object("a", null(), "b", null()), 1, 2), object("b", two)},
		{object("b", one, "a", two), inA(three), object("b", one, "a", three)}, {object("b", one, "a", two), object("b", null()), inA(two)}, {object("b", one, "a", two), object("aa", three), object("aa", three, "b", one, "a", two)}, {object(), object("b", one, "a", two), object("a", two, "b", one)},
		{object("a", one, "a", two), inA(null()), inA(two)}, {object("a", one, "a", two), inA(three), object("a", three, "a", two)},
		{object(), object("a", one, "a", two), inA(two)}, {object(), object("a", one, "a", null()), object()}, {inA(one), object("a", null(), "a", two), inA(two)}, {inA(object("b", one)), object("a", object("c", two), "a", object("d", three)), inA(object("b", one, "c", two, "d", three))}, {inA(object("b", one)), object("a", null(), "a", object("d", three)), inA(object("d", three))},
		{filled(api.Object, ab), object(), filled(api.Object, ab)}, {filled(api.Object, ab), object("c", null()), filled(api.Object, ab)}, {filled(api.Object, ab), inA(three), object("a", three, "b", two)}, {filled(api.Object, ab), inA(null()), object("b", two)}, {inA(one), filled(api.Object, object("b", two)), ab},
		{inA(one), inA(filled(api.Null, list(one))), object()}, {object(), inA(api.Tree{}), inA(api.Tree{})}, {ab, object("a", filled(9, ab), "b", filled(0, ab)), object("a", filled(9, ab), "b", filled(0, ab))},
		{inA(one), object("\xff", two), object("a", one, "\xff", two)}, {object("\xff", object("b", one)), object("\xff", object("b", null())), object("\xff", object())},
	} {
		hold(t, x.of, x.p, x.want)
		for _, depth := range []int{1, 62, 63, 64, 65, 66, 200} {
			hold(t, nest(depth, x.of, inA), nest(depth, x.p, inA), nest(depth, x.want, inA))
		}
	}
}

// stepped is what Merge must answer of any values: one member after the other, as tree's calls do it.
func stepped(t, p api.Tree) api.Tree {
	if p.Kind != api.Object {
		return p
	}
	if t.Kind != api.Object {
		t = object()
	}
	for i, name := range p.K {
		switch v, _ := tree.Member(t, name); {
		case i >= len(p.V):
		case p.V[i].Kind == api.Null:
			t = tree.Unset(t, name)
		default:
			t = tree.Set(t, name, stepped(v, p.V[i]))
		}
	}
	return t
}

// P16.1, R1: of any values, near and deep.
func TestMergeWild(t *testing.T) {
	r := rand.New(rand.NewSource(164))
	for range 10000 {
		of, p := wild(r, 4), wild(r, 4)
		want := stepped(of, p)
		hold(t, of, p, want)
		hold(t, nest(64, of, inA), nest(64, p, inA), stepped(nest(64, of, inA), nest(64, p, inA)))
		hold(t, nest(62, of, inA), nest(62, p, inA), stepped(nest(62, of, inA), nest(62, p, inA)))
		if t.Failed() {
			t.FailNow()
		}
		_, e := merge.Apply(of, p, 1000)
		if may := tree.Check(of) && tree.Check(p); may != (e == api.OK) || !may && e != api.Arg {
			t.Fatalf("Apply of %v and %v: %d", of, p, e)
		}
		merge.Clean(p)
	}
}

// P16.1: there may be more members than a value has.
func TestMergeWide(t *testing.T) {
	one, two := number(1), number(2)
	for _, n := range []int{299, 300, 301, 1000} {
		want := object(append(pairs(wide(0, 200, one)), pairs(wide(200, n, two))...)...)
		for _, depth := range []int{0, 64, 65} {
			hold(t, nest(depth, wide(0, 201, one), inA), nest(depth, wide(200, n, two), inA), nest(depth, want, inA))
			hold(t, nest(depth, want, inA), nest(depth, wide(200, n, null()), inA), nest(depth, wide(0, 200, one), inA))
		}
		if last := wide(0, n, two); !merge.Clean(last) || merge.Clean(tree.Set(last, "z", null())) || merge.Clean(tree.Set(last, "z", inA(null()))) {
			t.Errorf("%d members", n)
		}
	}
}

// P16.1: it is the same how deep it may lie, also where no value may be so deep.
func TestMergeDeep(t *testing.T) {
	r := rand.New(rand.NewSource(161))
	around := func(v api.Tree) api.Tree {
		t := object("b", v)
		for _, name := range []string{"a", "c"} {
			if r.Intn(3) > 0 {
				t = tree.Set(t, name, mixed(r, 2))
			}
		}
		return t
	}
	for depth := range 200 {
		of, p, short := nest(depth, mixed(r, 3), around), nest(depth, mixed(r, 3), around), nest(depth/2, mixed(r, 3), around)
		for _, pair := range [][2]api.Tree{{of, p}, {of, short}, {short, p}, {null(), p}, {object(), p}} {
			hold(t, pair[0], pair[1], model(pair[0], pair[1]))
		}
		if t.Failed() {
			t.Fatalf("%d deep", depth)
		}
	}
}

// R1: no depth is too great. The stack is held small, so that a call for each level would show.
func TestMergeVeryDeep(t *testing.T) {
	defer debug.SetMaxStack(debug.SetMaxStack(4 << 20))
	const levels = 100000
	inB := func(v api.Tree) api.Tree { return object("a", number(1), "b", v, "c", object()) }
	of, p := nest(levels, object("d", number(1)), inB), nest(levels, object("d", null(), "e", number(2)), inB)
	if got := merge.Merge(of, p); !tree.Same(got, nest(levels, object("e", number(2)), inB)) {
		t.Error("into another one")
	}
	if got := merge.Merge(null(), p); !tree.Same(got, nest(levels, object("e", number(2)), inB)) {
		t.Error("into Null")
	}
	arrays := nest(levels, null(), inArray)
	if got := merge.Merge(arrays, object("a", arrays)); !tree.Same(got, object("a", arrays)) {
		t.Error("arrays")
	}
	if merge.Clean(p) || !merge.Clean(of) || !merge.Clean(arrays) || !merge.Clean(inA(arrays)) {
		t.Error("whether they are clean")
	}
}

// P16.2
func TestClean(t *testing.T) {
	one, not := number(1), api.Tree{Kind: api.Null}
	for i, x := range []struct {
		p    api.Tree
		want bool
	}{
		{object(), true}, {inA(one), true}, {inA(not), false}, {inA(list(not)), true}, {inA(object()), true}, {inA(inA(not)), false}, {inA(inA(one)), true}, {inA(list(inA(not))), true},
		{object("a", not, "b", one, "c", one), false}, {object("a", one, "b", not, "c", one), false}, {object("a", one, "b", one, "c", not), false},
		{object("a", inA(not), "b", one, "c", object()), false}, {object("a", object(), "b", inA(not), "c", list()), false}, {object("a", object(), "b", list(not), "c", inA(not)), false}, {object("a", inA(one), "b", list(not), "c", inA(inA(inA(one)))), true}, {object("a", inA(inA(inA(one))), "b", inA(inA(inA(not))), "c", inA(inA(inA(one)))), false},
		{list(object("a", not), object("b", object("c", not))), true}, {inA(filled(api.Null, object())), false}, {inA(api.Tree{}), true}, {filled(api.Object, inA(not)), false}, {filled(api.Object, inA(one)), true},
		{api.Tree{Kind: api.Object, V: []api.Tree{not}}, false}, {api.Tree{Kind: api.Object, V: []api.Tree{one, {Kind: api.Object, V: []api.Tree{not}}}}, false}, {cut(object("a", one, "b", not), 1, 2), false}, {cut(object("a", one, "b", inA(not)), 1, 2), false}, {cut(object("a", one, "b", not), 2, 1), true}, {cut(object("a", one, "b", not), 2, 0), true}, {cut(object("a", one, "b", one), 0, 2), true},
		{object("b", one, "a", not), false}, {object("a", one, "a", not), false}, {object("a", not, "a", one), false}, {object("\xff", not), false}, {wide(0, 1000, one), true}, {object("a", wide(0, 1000, one), "b", inA(not)), false},
	} {
		for depth := range 70 {
			if got := merge.Clean(nest(depth, x.p, inA)); got != x.want {
				t.Errorf("%d, %d deep: %t", i, depth, got)
			}
			if !merge.Clean(inArray(nest(depth, x.p, inA))) || !merge.Clean(inA(inArray(nest(depth, x.p, inA)))) {
				t.Errorf("%d, %d deep in an array", i, depth)
			}
		}
	}
	for i, p := range noObjects() {
		if !merge.Clean(p) || merge.Clean(inA(p)) != (p.Kind != api.Null) {
			t.Errorf("%d, no object", i)
		}
	}
}

// P16.2, P16.3: what is Clean and merged into Null is itself, and what is not is another one.
func TestCleanIntoNull(t *testing.T) {
	r := rand.New(rand.NewSource(163))
	l := small(2)
	for range 20000 {
		l = append(l, mixed(r, 1+r.Intn(4)))
	}
	told := map[bool]int{}
	for _, p := range l {
		clean := merge.Clean(p)
		told[clean]++
		if want := !takesAway(grown(p)); clean != want {
			t.Fatalf("%v: %t", p, clean)
		}
		if got := merge.Merge(null(), p); exact(got, p) != clean || !merge.Clean(got) {
			t.Fatalf("%v merged into Null: %v", p, got)
		}
	}
	if told[true] < 1000 || told[false] < 1000 {
		t.Errorf("told: %v", told)
	}
}

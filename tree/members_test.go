package tree_test

import (
	"math/rand"
	"slices"
	"strings"
	"testing"

	"erratum/api"
	"erratum/num"
	"erratum/tree"
)

// exact tells whether all fields of two are the same, those that play no part, too.
func exact(a, b api.Tree) bool {
	return a.Kind == b.Kind && a.B == b.B && a.S == b.S && a.N.Neg == b.N.Neg && a.N.E == b.N.E && slices.Equal(a.N.M, b.N.M) && slices.Equal(a.K, b.K) && slices.EqualFunc(a.V, b.V, exact)
}

// object is of names of one letter each and values by turns: "a1b2".
func object(s string) api.Tree {
	t := api.Tree{Kind: api.Object}
	for i := 0; i < len(s); i += 2 {
		t.K = append(t.K, s[i:i+1])
		t.V = append(t.V, number(s[i+1:i+2]))
	}
	return t
}

// filled is t with fields that are none of an object's.
func filled(t api.Tree) api.Tree {
	t.B, t.N, t.S = true, num.Of(-7), "x"
	return t
}

// cut is t with so many names and values.
func cut(t api.Tree, names, values int) api.Tree {
	t.K, t.V = t.K[:names], t.V[:values]
	return t
}

// noObjects are values that have no members, names or not.
func noObjects() []api.Tree {
	l := []api.Tree{{}, null(), truth(true), number("7"), text("a"), blob("a"), list(), list(null())}
	for _, kind := range []int{-1, 0, api.Null, api.Bool, api.Number, api.Text, api.Bytes, api.Array, 8} {
		odd := filled(object("a1b2"))
		odd.Kind = kind
		l = append(l, odd)
	}
	return l
}

// P5.3
func TestMember(t *testing.T) {
	for _, x := range []struct {
		of   api.Tree
		name string
		want string // of the member, or empty
	}{
		{object("a1b2c3"), "a", "1"}, {object("a1b2c3"), "b", "2"}, {object("a1b2c3"), "c", "3"}, {object("a1b2c3"), "d", ""}, {object("a1b2c3"), "", ""}, {object("a1b2c3"), "ab", ""}, {object("a1b2c3"), "A", ""}, {object(""), "", ""}, {object(""), "a", ""},
		{filled(object("a1b2c3")), "b", "2"},
		{object("c3b2a1"), "a", "1"}, {object("c3b2a1"), "c", "3"}, {object("c3a1b2"), "b", "2"}, {object("c3a1b2"), "d", ""}, // names that do not rise
		{object("a1a2a3"), "a", "1"}, {object("a1b2b3c4"), "b", "2"}, {object("b1a2b3"), "b", "1"}, // names that stand twice
		{cut(object("a1b2c3"), 3, 2), "b", "2"}, {cut(object("a1b2c3"), 3, 2), "c", ""}, {cut(object("a1b2c3"), 2, 3), "b", "2"}, {cut(object("a1b2c3"), 2, 3), "c", ""}, {cut(object("a1"), 1, 0), "a", ""}, {cut(object("a1"), 0, 1), "", ""},
	} {
		want := api.Tree{}
		if x.want != "" {
			want = number(x.want)
		}
		if got, ok := tree.Member(x.of, x.name); !exact(got, want) || ok != (x.want != "") {
			t.Errorf("Member of %v, %q: %v, %v", x.of.K, x.name, got, ok)
		}
	}
	for _, v := range noObjects() {
		if got, ok := tree.Member(v, "a"); !exact(got, api.Tree{}) || ok {
			t.Errorf("Member of %v: %v, %v", v, got, ok)
		}
	}
	for _, odd := range []api.Tree{{}, filled(null()), filled(list(null())), text("\xff")} {
		if got, ok := tree.Member(one("\xff", odd), "\xff"); !exact(got, odd) || !ok {
			t.Errorf("Member that is %v: %v, %v", odd, got, ok)
		}
	}
}

// P5.3
func TestSet(t *testing.T) {
	for _, x := range []struct {
		of   api.Tree
		name string
		want string
	}{
		{object("a1c3"), "a", "a9c3"}, {object("a1c3"), "c", "a1c9"}, {object("a1c3"), "b", "a1b9c3"}, {object("a1c3"), "d", "a1c3d9"}, {object("a1c3"), "A", "A9a1c3"}, {object(""), "a", "a9"}, {object("a1"), "a", "a9"},
		{filled(object("a1c3")), "b", "a1b9c3"}, {filled(object("a1c3")), "a", "a9c3"},
		{object("c3a1"), "a", "c3a9"}, {object("c3a1"), "b", "b9c3a1"}, {object("a1d4b2"), "c", "a1c9d4b2"}, {object("b2a1"), "c", "b2a1c9"}, {object("b2d4a1d5"), "c", "b2c9d4a1d5"}, // names that do not rise
		{object("a1a2"), "a", "a9a2"}, {object("a1b2b3c4"), "b", "a1b9b3c4"}, {object("b1a2b3"), "b", "b9a2b3"}, {object("a1c2c3"), "b", "a1b9c2c3"}, {object("a1a2"), "b", "a1a2b9"}, // names that stand twice
		{cut(object("a1b2c3"), 3, 2), "b", "a1b9"}, {cut(object("a1b2c3"), 3, 2), "c", "a1b2c9"}, {cut(object("a1b2d4"), 3, 2), "c", "a1b2c9"}, {cut(object("a1b2c3"), 2, 3), "c", "a1b2c9"}, {cut(object("a1b2c3"), 2, 3), "a", "a9b2"}, {cut(object("a1"), 1, 0), "a", "a9"}, {cut(object("b1"), 0, 1), "a", "a9"},
	} {
		if got := tree.Set(x.of, x.name, number("9")); !exact(got, object(x.want)) {
			t.Errorf("Set of %v, %q: %v", x.of.K, x.name, got)
		}
	}
	for _, v := range noObjects() {
		if got := tree.Set(v, "a", number("9")); !exact(got, object("a9")) {
			t.Errorf("Set of %v: %v", v, got)
		}
	}
	for _, odd := range []api.Tree{{}, filled(null()), filled(list(null())), one("a", null())} {
		if got := tree.Set(object("a1"), "", odd); !exact(got, api.Tree{Kind: api.Object, K: []string{"", "a"}, V: []api.Tree{odd, number("1")}}) {
			t.Errorf("Set of %v: %v", odd, got)
		}
	}
}

// P5.3: names are in their order by bytes.
func TestSetByBytes(t *testing.T) {
	want := []string{"", "\x00", "10", "9", "A", "a", "a\x00", "aa", "b", "\u00e9", "\uffff", "\U00010000", "\xff"}
	r := rand.New(rand.NewSource(53))
	for range 200 {
		v := null()
		for _, i := range r.Perm(len(want)) {
			v = tree.Set(v, want[i], text(want[i]))
		}
		if !slices.Equal(v.K, want) {
			t.Fatalf("names: %q", v.K)
		}
		for i, name := range want {
			if v.V[i].S != name {
				t.Fatalf("value of %q: %v", name, v.V[i])
			}
		}
	}
}

// P5.3
func TestUnset(t *testing.T) {
	for _, x := range []struct {
		of   api.Tree
		name string
		want string
	}{
		{object("a1b2c3"), "a", "b2c3"}, {object("a1b2c3"), "b", "a1c3"}, {object("a1b2c3"), "c", "a1b2"}, {object("a1"), "a", ""},
		{filled(object("a1b2")), "a", "b2"},
		{object("c3a1b2"), "b", "c3a1"}, {object("c3a1b2"), "c", "a1b2"}, // names that do not rise
		{object("a1a2"), "a", "a2"}, {object("b1a2b3"), "b", "a2b3"}, {object("a1b2b3c4"), "b", "a1b3c4"}, // names that stand twice
		{cut(object("a1b2c3"), 3, 2), "b", "a1"}, {cut(object("a1b2c3"), 3, 1), "a", ""}, {cut(object("a1b2c3"), 2, 3), "a", "b2"},
	} {
		if got := tree.Unset(x.of, x.name); !exact(got, object(x.want)) {
			t.Errorf("Unset of %v, %q: %v", x.of.K, x.name, got)
		}
	}
	stay := append(noObjects(), object(""), object("b2"), object("b2c3"), object("c3b2"), filled(object("b2b3")), cut(object("b2c3"), 2, 1), cut(object("b2c3"), 1, 2), cut(object("b2a1"), 2, 1), cut(filled(object("a1")), 1, 0), cut(object("a1"), 0, 1))
	for _, v := range stay {
		if got := tree.Unset(v, "a"); !exact(got, v) {
			t.Errorf("Unset of %v: %v", v, got)
		}
	}
}

// P5.4
func TestWhatIsSetIsTheMember(t *testing.T) {
	names := []string{"", "a", "b", "c", "d", "e", "f", "g", "h", "\u20ac"}
	for i, v := range samples(2000) {
		good := v.Kind == api.Object && tree.Check(v)
		for _, name := range names {
			set, unset := tree.Set(v, name, number("9")), tree.Unset(v, name)
			if got, ok := tree.Member(set, name); !ok || !exact(got, number("9")) {
				t.Fatalf("what is set in value %d, %q: %v, %v", i, name, got, ok)
			}
			if _, ok := tree.Member(unset, name); good && ok {
				t.Fatalf("what is unset in value %d, %q", i, name)
			}
			if good && (!tree.Check(set) || !tree.Check(unset) || !tree.Same(tree.Unset(set, name), unset)) {
				t.Fatalf("set and unset in value %d, %q: %v, %v", i, name, set, unset)
			}
			for _, other := range names {
				if other == name {
					continue
				}
				was, had := tree.Member(v, other)
				one, hasOne := tree.Member(set, other)
				two, hasTwo := tree.Member(unset, other)
				if hasOne != had || hasTwo != had || !exact(one, was) || !exact(two, was) {
					t.Fatalf("value %d, %q beside %q", i, other, name)
				}
			}
		}
	}
}

// scribble writes over an answer's own lists, spare room too.
func scribble(t api.Tree) {
	for i, all := 0, t.K[:cap(t.K)]; i < len(all); i++ {
		all[i] = "scribbled"
	}
	clear(t.V[:cap(t.V)])
}

// R3
func TestListsStay(t *testing.T) {
	whole := object("a1b2c3d4e5f6")
	kept := object("a1b2c3d4e5f6")
	of := cut(whole, 4, 4) // the others stand in its spare room
	for _, name := range []string{"", "a", "b", "bb", "d", "dd", "z"} {
		v := one("x", list(number("1"), text("y")))
		scribble(tree.Set(of, name, v))
		if got := tree.Unset(of, name); len(got.K) < len(of.K) {
			scribble(got)
		}
		tree.Member(of, name)
		tree.Check(of)
		tree.Same(of, whole)
		if !exact(whole, kept) || !exact(v, one("x", list(number("1"), text("y")))) {
			t.Fatalf("what was handed in was changed, or is shared, by %q: %v", name, whole)
		}
	}
}

// R3, R4: an answer is what it is, whatever comes behind it.
func TestAnswersStay(t *testing.T) {
	first := tree.Set(object("a1c3"), "b", number("9"))
	second := tree.Set(first, "b", number("8"))
	third := tree.Unset(first, "a")
	fourth := tree.Set(first, "d", number("7"))
	if !exact(first, object("a1b9c3")) || !exact(second, object("a1b8c3")) || !exact(third, object("b9c3")) || !exact(fourth, object("a1b9c3d7")) {
		t.Error(first, second, third, fourth)
	}
	long := named(strings.Split(strings.Repeat("k ", 50000), " ")...)
	if got := tree.Set(long, "z", null()); len(got.K) != 50002 || len(got.V) != 50002 || got.K[50001] != "z" {
		t.Error("a long object", len(got.K), len(got.V))
	}
}

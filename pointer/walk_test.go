package pointer_test

import (
	"math/rand"
	"runtime/debug"
	"slices"
	"strconv"
	"testing"

	"erratum/api"
	"erratum/pointer"
	"erratum/tree"
)

// replaced is what Put must answer of a path that leads to a value.
func replaced(t api.Tree, path []string, v api.Tree) api.Tree {
	if len(path) == 0 {
		return v
	}
	t = copied(t)
	for i := range t.V {
		token := strconv.Itoa(i)
		if t.Kind == api.Object {
			token = t.K[i]
		}
		if token == path[0] {
			t.V[i] = replaced(t.V[i], path[1:], v)
			break
		}
	}
	return t
}

// lead holds Get and Put at a path against the value there; empty is none.
func lead(t *testing.T, of api.Tree, path []string, want api.Tree) {
	t.Helper()
	there := want.Kind != 0
	if got, ok := pointer.Get(of, path); !exact(got, want) || ok != there {
		t.Errorf("Get of %v at %q: %v, %t", of, path, got, ok)
	}
	before := copied(of)
	for _, v := range []api.Tree{{}, text("new"), filled(9, list(null()))} {
		got, ok := pointer.Put(of, path, v)
		if ok != there || !ok && !exact(got, api.Tree{}) {
			t.Errorf("Put of %v at %q: %v, %t", of, path, got, ok)
		}
		if back, is := pointer.Get(got, path); ok && (!exact(back, v) || !is) {
			t.Errorf("Get of what is put into %v at %q: %v, %t", of, path, back, is)
		}
	}
	if !exact(of, before) {
		t.Errorf("%v is turned", before)
	}
}

// P14.2: what each value has, at tokens of all kinds.
func TestLead(t *testing.T) {
	none := api.Tree{}
	v := object("", number("9"), "-", number("6"), "0", number("8"), "01", number("7"), "a", list(number("1"), object("b", text("c"))), "a/b", blob("\xff"), "~", null(), "\xff", truth(true))
	for _, x := range []struct {
		path []string
		want api.Tree
	}{
		{nil, v}, {[]string{}, v}, {[]string{""}, number("9")}, {[]string{"-"}, number("6")}, {[]string{"0"}, number("8")}, {[]string{"01"}, number("7")}, {[]string{"a/b"}, blob("\xff")}, {[]string{"~"}, null()}, {[]string{"\xff"}, truth(true)},
		{[]string{"a"}, v.V[4]}, {[]string{"a", "0"}, number("1")}, {[]string{"a", "1"}, object("b", text("c"))}, {[]string{"a", "1", "b"}, text("c")},
		{[]string{"1"}, none}, {[]string{"b"}, none}, {[]string{"A"}, none}, {[]string{"a", "2"}, none}, {[]string{"a", "-"}, none}, {[]string{"a", "01"}, none}, {[]string{"a", ""}, none}, {[]string{"a", "b"}, none}, {[]string{"a", "0", ""}, none}, {[]string{"a", "0", "0"}, none}, {[]string{"a", "1", "c"}, none}, {[]string{"a", "1", "0"}, none}, {[]string{"a", "1", "b", "0"}, none}, {[]string{"a", "1", "b", ""}, none}, {[]string{"a~1b"}, none}, {[]string{"a", "b", "a", "1"}, none}, {[]string{"x", "x", "x", "x", "x"}, none}, {[]string{"~", "0"}, none}, {[]string{"", "", ""}, none},
	} {
		lead(t, v, x.path, x.want)
	}
	for _, alone := range []api.Tree{null(), truth(true), number("7"), text("ab"), blob("ab"), list(), object()} {
		lead(t, alone, nil, alone)
		for _, token := range append(odd(), "0", "1") {
			lead(t, alone, []string{token}, none)
			lead(t, alone, []string{token, token}, none)
		}
	}
}

// P14.2: an array's items by their numbers, as many as there may be and more.
func TestLeadItems(t *testing.T) {
	for _, many := range []int{1, 2, 10, 11, 300, 301, 10000, 10001} {
		v := list(numbers(many)...)
		for _, i := range []int{0, 1, 9, 10, 299, 300, 9999, 10000, many - 1, many} {
			want := api.Tree{}
			if i < many && i <= 9999 {
				want = v.V[i]
			}
			got, ok := pointer.Get(v, []string{strconv.Itoa(i)})
			if !exact(got, want) || ok != (want.Kind != 0) {
				t.Errorf("item %d of %d: %v, %t", i, many, got, ok)
			}
		}
		for _, token := range odd() {
			if got, ok := pointer.Get(v, []string{token}); ok || !exact(got, api.Tree{}) {
				t.Errorf("item %q of %d: %v", token, many, got)
			}
			if got, ok := pointer.Put(v, []string{token}, null()); ok || !exact(got, api.Tree{}) {
				t.Errorf("item %q of %d, put: %v", token, many, got)
			}
		}
	}
}

// P14.2: of values that may not be: only as many members as have both a name and a value, and of a name that stands twice the first one; what plays no part stays.
func TestLeadOdd(t *testing.T) {
	none := api.Tree{}
	abc := object("a", number("1"), "b", number("2"), "c", number("3"))
	for _, x := range []struct {
		of    api.Tree
		token string
		want  api.Tree
	}{
		{cut(abc, 3, 2), "b", number("2")}, {cut(abc, 3, 2), "c", none}, {cut(abc, 2, 3), "b", number("2")}, {cut(abc, 2, 3), "c", none}, {cut(abc, 3, 0), "a", none}, {cut(abc, 0, 3), "a", none}, {cut(abc, 0, 3), "", none}, {cut(abc, 0, 3), "0", none},
		{object("b", number("1"), "a", number("2"), "b", number("3")), "b", number("1")}, {object("b", number("1"), "a", number("2"), "a", number("3")), "a", number("2")}, {cut(object("c", null(), "b", null(), "c", number("3")), 3, 1), "b", none}, {cut(object("c", null(), "b", number("2"), "b", number("3")), 3, 1), "b", none},
		{filled(api.Object, abc), "c", number("3")}, {filled(api.Array, abc), "2", number("3")}, {filled(api.Array, abc), "3", none}, {filled(api.Array, abc), "a", none}, {filled(api.Array, cut(abc, 3, 1)), "1", none}, {filled(api.Array, cut(abc, 0, 3)), "1", number("2")},
		{object("a", none), "b", none},
	} {
		lead(t, x.of, []string{x.token}, x.want)
		lead(t, list(x.of), []string{"0", x.token}, x.want)
		if x.want.Kind != 0 {
			want := replaced(x.of, []string{x.token}, text("new"))
			if got, _ := pointer.Put(x.of, []string{x.token}, text("new")); !exact(got, want) {
				t.Errorf("Put of %v at %q: %v", x.of, x.token, got)
			}
		}
	}
	for _, kind := range []int{-1, 0, api.Null, api.Bool, api.Number, api.Text, api.Bytes, 8, 1<<32 + api.Array} {
		for _, token := range []string{"a", "0", ""} {
			lead(t, filled(kind, abc), []string{token}, none)
		}
	}
	if got, ok := pointer.Get(object("a", none), []string{"a"}); !ok || !exact(got, none) {
		t.Errorf("a member that is zero: %v, %t", got, ok)
	}
	if got, ok := pointer.Put(none, nil, none); !ok || !exact(got, none) {
		t.Errorf("a value that is zero: %v, %t", got, ok)
	}
}

// P14.2, P14.3: what is put is got, and what is not on the way stays.
func TestLeadMixed(t *testing.T) {
	r := rand.New(rand.NewSource(3))
	for range 80 {
		v := mixed(r, 5)
		l := spots(v, nil)
		for _, at := range l[:min(len(l), 40)] {
			lead(t, v, at.path, at.v)
			with := mixed(r, 2)
			got, ok := pointer.Put(v, at.path, with)
			if !ok || !exact(got, replaced(v, at.path, with)) {
				t.Fatalf("Put of %v at %q: %v, %t", v, at.path, got, ok)
			}
			if !tree.Check(got) {
				t.Fatalf("Put of %v at %q: %v may not be", v, at.path, got)
			}
			for _, other := range l {
				if back, is := pointer.Get(got, other.path); !pointer.Starts(at.path, other.path) && !pointer.Starts(other.path, at.path) && (!is || !exact(back, other.v)) {
					t.Fatalf("Put of %v at %q turned %q: %v", v, at.path, other.path, back)
				}
			}
			for _, token := range []string{"x", "20", "-1", "00"} {
				lead(t, v, append(slices.Clone(at.path), token), api.Tree{})
			}
		}
	}
}

// R3: what is put into is not written to, and its spare room is not, either.
func TestPutMemory(t *testing.T) {
	roomy := func() api.Tree {
		v := object("a", list(append(make([]api.Tree, 0, 9), numbers(3)...)...), "b", null())
		v.K, v.V = append(make([]string, 0, 9), v.K...), append(make([]api.Tree, 0, 9), v.V...)
		return v
	}
	for _, path := range [][]string{{"a"}, {"b"}, {"a", "0"}, {"a", "2"}} {
		v, want := roomy(), roomy()
		got, ok := pointer.Put(v, path, text("new"))
		if !ok || !exact(v, want) {
			t.Fatalf("Put at %q: %v, %t, of %v", path, got, ok, v)
		}
		for at := range path { // the lists of values on the way are the answer's own
			in, _ := pointer.Get(got, path[:at])
			clear(in.V[:cap(in.V)])
		}
		if !exact(v, want) || !exact(v.V[:9][8], api.Tree{}) || v.K[:9][8] != "" {
			t.Errorf("spoiling what Put at %q answered turned %v", path, v)
		}
	}
	path := append(make([]string, 0, 4), "a", "0")
	pointer.Get(roomy(), path)
	pointer.Put(roomy(), path, null())
	if !slices.Equal(path[:4], []string{"a", "0", "", ""}) {
		t.Errorf("the path is %q", path[:4])
	}
}

// R1: no path is too long. The stack is held small, so that a call for each token would show.
func TestVeryLong(t *testing.T) {
	defer debug.SetMaxStack(debug.SetMaxStack(4 << 20))
	const levels = 300001
	v := number("1")
	for range levels {
		v = list(null(), v)
	}
	path := slices.Repeat([]string{"1"}, levels)
	got, ok := pointer.Put(v, path, text("new"))
	if !ok {
		t.Fatal("not put")
	}
	for _, x := range []struct {
		of   api.Tree
		want api.Tree
	}{{got, text("new")}, {v, number("1")}} {
		if there, ok := pointer.Get(x.of, path); !ok || !exact(there, x.want) {
			t.Errorf("%v, %t", there, ok)
		}
	}
	path[levels-1] = "2"
	if got, ok := pointer.Put(v, path, null()); ok || !exact(got, api.Tree{}) {
		t.Error("put where nothing is")
	}
	path[0] = "2"
	if got, ok := pointer.Get(v, path); ok || !exact(got, api.Tree{}) {
		t.Error("got where nothing is")
	}
}

package ops_test

import (
	"math"
	"math/rand"
	"runtime/debug"
	"slices"
	"strconv"
	"testing"

	"erratum/api"
	"erratum/ops"
	"erratum/tree"
)

// hold holds One against what it must answer: empty, if it does not go.
func hold(t *testing.T, of api.Tree, o api.Op, want api.Tree) {
	t.Helper()
	before, value := copied(of), copied(o.Value)
	got, ok := ops.One(of, o)
	if goes := want.Kind != 0; ok != goes || !exact(got, want) {
		t.Errorf("%s, %v, of %v: %v, %t, not %v", told(o), o.Value, of, got, ok, want)
	}
	if !exact(of, before) || !exact(o.Value, value) {
		t.Errorf("%s turned %v", told(o), before)
	}
}

// refuse holds One against what does not go.
func refuse(t *testing.T, of api.Tree, l ...api.Op) {
	t.Helper()
	for _, o := range l {
		hold(t, of, o, api.Tree{})
	}
}

// leaves are values that have no parts, and odd ones with parts that play none.
func leaves() []api.Tree {
	l := []api.Tree{null(), number(7), text("ab"), blob("ab"), {Kind: api.Bool, B: true}}
	for _, kind := range []int{-1, api.Null, api.Bool, api.Number, api.Text, api.Bytes, 8, 1<<32 + api.Array, 1<<32 + api.Object} {
		l = append(l, filled(kind, object("-", null(), "0", null(), "a", null())))
	}
	return l
}

// P15.2
func TestAdd(t *testing.T) {
	v := text("new")
	for _, of := range append(leaves(), list(), object(), list(v), api.Tree{Kind: 0}) {
		hold(t, of, add("", v), v)
		hold(t, of, add("", list(object("a", of))), list(object("a", of)))
	}
	ab := object("b", number(1), "d", number(2))
	for at, want := range map[string]api.Tree{
		"/": object("", v, "b", number(1), "d", number(2)), "/a": object("a", v, "b", number(1), "d", number(2)), "/b": object("b", v, "d", number(2)), "/c": object("b", number(1), "c", v, "d", number(2)), "/d": object("b", number(1), "d", v), "/e": object("b", number(1), "d", number(2), "e", v),
		"/-": object("-", v, "b", number(1), "d", number(2)), "/0": object("0", v, "b", number(1), "d", number(2)), "/01": object("01", v, "b", number(1), "d", number(2)), "/~0~1": object("b", number(1), "d", number(2), "~/", v),
	} {
		hold(t, ab, add(at, v), want)
		hold(t, list(null(), ab), add("/1"+at, v), list(null(), want))
		hold(t, object("x", ab, "y", null()), add("/x"+at, v), object("x", want, "y", null()))
	}
	l := list(number(0), number(1), number(2))
	for at, want := range map[string]api.Tree{
		"/0": list(v, number(0), number(1), number(2)), "/1": list(number(0), v, number(1), number(2)), "/2": list(number(0), number(1), v, number(2)), "/3": list(number(0), number(1), number(2), v), "/-": list(number(0), number(1), number(2), v),
	} {
		hold(t, l, add(at, v), want)
		hold(t, object("-", l), add("/-"+at, v), object("-", want))
	}
	hold(t, list(), add("/0", v), list(v))
	hold(t, list(), add("/-", v), list(v))
	hold(t, object("a", list(number(1))), add("/a/-", number(3)), object("a", list(number(1), number(3)))) // the chapter's example
	for _, at := range []string{"/4", "/00", "/01", "/-1", "/+1", "/--", "/1.0", "/ 1", "/", "/a", "/1e0", "/10000", "/18446744073709551616", "/-/0", "/3/a", "/0/0", "/0/-", "/0/", "/a/b"} {
		refuse(t, l, add(at, v))
	}
	refuse(t, list(), add("/1", v), add("/0/0", v))
	refuse(t, roomy(), add("/a/4", v), add("/a/5", v), add("/a/9", v)) // spare room holds no items
	refuse(t, ab, add("/b/a", v), add("/b/-", v), add("/b/0", v), add("/b/", v), add("/a/a", v), add("/-/a", v), add("/c/-", v))
	for _, leaf := range leaves() {
		refuse(t, leaf, add("/-", v), add("/0", v), add("/a", v), add("/", v), add("/a/b", v))
		refuse(t, object("a", leaf), add("/a/-", v), add("/a/0", v), add("/a/a", v), add("/a/", v))
	}
	refuse(t, api.Tree{}, add("/a", v), add("/-", v))
}

// P15.2
func TestRemove(t *testing.T) {
	v := object("", number(9), "-", number(6), "0", number(8), "a", list(number(1), number(2), number(3)), "b", object("c", null()))
	for at, name := range map[string]string{"/": "", "/-": "-", "/0": "0", "/a": "a", "/b": "b"} {
		want := object()
		for i, other := range v.K {
			if other != name {
				want.K, want.V = append(want.K, other), append(want.V, v.V[i])
			}
		}
		hold(t, v, remove(at), want)
		hold(t, list(null(), v, null()), remove("/1"+at), list(null(), want, null()))
	}
	for at, want := range map[string]api.Tree{"/0": list(number(2), number(3)), "/1": list(number(1), number(3)), "/2": list(number(1), number(2))} {
		hold(t, v.V[3], remove(at), want)
		hold(t, object("a", v.V[3]), remove("/a"+at), object("a", want))
	}
	refuse(t, roomy(), remove("/a/3"), remove("/a/8"))
	hold(t, list(null()), remove("/0"), list())
	hold(t, object("a", null()), remove("/a"), object())
	hold(t, object("b", object("c", null())), remove("/b/c"), object("b", object()))
	refuse(t, v, remove(""), remove("/z"), remove("/1"), remove("/01"), remove("/a/3"), remove("/a/-"), remove("/a/00"), remove("/a/-1"), remove("/a/"), remove("/a/a"), remove("/a/0/0"), remove("/b/d"), remove("/b/c/d"), remove("/z/a"))
	for _, leaf := range append(leaves(), list(), object(), api.Tree{}) {
		refuse(t, leaf, remove(""), remove("/0"), remove("/-"), remove("/"), remove("/b"))
	}
}

// P15.2
func TestReplace(t *testing.T) {
	v := object("", number(9), "a", list(number(1), object("b", null())))
	w := list(text("new"))
	for _, of := range append(leaves(), list(), object(), v, api.Tree{}) {
		hold(t, of, replace("", w), w)
		hold(t, list(of), replace("/0", w), list(w))
		hold(t, object("-", of), replace("/-", w), object("-", w))
		refuse(t, of, replace("/0", w), replace("/-", w), replace("/b", w), replace("/z", w))
	}
	for at, want := range map[string]api.Tree{
		"/": object("", w, "a", v.V[1]), "/a": object("", number(9), "a", w), "/a/0": object("", number(9), "a", list(w, object("b", null()))), "/a/1": object("", number(9), "a", list(number(1), w)), "/a/1/b": object("", number(9), "a", list(number(1), object("b", w))),
	} {
		hold(t, v, replace(at, w), want)
	}
	refuse(t, v, replace("/b", w), replace("/a/2", w), replace("/a/-", w), replace("/a/01", w), replace("/a/1/c", w), replace("/a/1/b/c", w), replace("/a/0/0", w))
}

// P15.2
func TestMove(t *testing.T) {
	ab := object("a", list(number(0), number(1), number(2)), "b", object("c", text("x")))
	a, b := ab.V[0], ab.V[1]
	with := func(l ...api.Tree) api.Tree { return object("a", list(l...), "b", b) }
	for _, x := range []struct {
		from, at string
		want     api.Tree
	}{
		{"/a", "/c", object("b", b, "c", a)}, {"/a", "/b", object("b", a)}, {"/a", "/b/a", object("b", object("a", a, "c", text("x")))}, {"/a", "/b/c", object("b", object("c", a))}, {"/b/c", "/b", object("a", a, "b", text("x"))}, {"/b", "/", object("", b, "a", a)},
		{"/a/0", "/a/0", ab}, {"/a/0", "/a/1", with(number(1), number(0), number(2))}, {"/a/0", "/a/2", with(number(1), number(2), number(0))}, {"/a/0", "/a/-", with(number(1), number(2), number(0))}, {"/a/2", "/a/0", with(number(2), number(0), number(1))}, {"/a/1", "/a/0", with(number(1), number(0), number(2))}, {"/a/1", "/a/1", ab}, {"/a/2", "/a/2", ab}, {"/a/2", "/a/-", ab},
		{"/b/c", "/a/1", object("a", list(number(0), text("x"), number(1), number(2)), "b", object())}, {"/a/1", "/b/-", object("a", list(number(0), number(2)), "b", object("-", number(1), "c", text("x")))}, {"/b", "/a/-", object("a", list(number(0), number(1), number(2), b))}, {"/a/2", "/a", object("a", number(2), "b", b)},
		{"/a", "", a}, {"/a/1", "", number(1)}, {"/b/c", "", text("x")}, {"", "", ab}, {"/a", "/a", ab}, {"/b/c", "/b/c", ab},
		{"/a", "/ab", object("ab", a, "b", b)}, {"/b", "/b~1", object("a", a, "b/", b)},
	} {
		hold(t, ab, move(x.from, x.at), x.want)
	}
	refuse(t, ab, move("", "/a"), move("", "/z"), move("", "/a/0"), move("/z", "/a"), move("/z", "/z"), move("/z", ""), move("/a/3", "/b/d"), move("/a/-", "/a/0"), move("/a/-", "/a/-"), move("/a/3", "/a/3"), move("/a/01", "/a/01"), move("/b/d", "/b/d"))
	refuse(t, ab, move("/a", "/a/0"), move("/a", "/a/-"), move("/b", "/b/c"), move("/b", "/b/d"), move("/b/c", "/b/c/d"), move("/b", "/b/c/d/e"))
	refuse(t, ab, move("/a/0", "/a/3"), move("/a/2", "/a/3"), move("/b/c", "/a/4"), move("/a", "/c/d"), move("/a/0", "/b/c/d"), move("/b", "/a/x"), move("/a/0", "/a/1/x"))
	nested := list(list(number(1)), list(number(2)), list(number(3)))
	hold(t, nested, move("/0", "/1/0"), list(list(number(2)), list(list(number(1)), number(3)))) // the path is gone when it is removed
	hold(t, nested, move("/1", "/0/-"), list(list(number(1), list(number(2))), list(number(3))))
	hold(t, nested, move("/1/0", "/1"), list(list(number(1)), number(2), list(), list(number(3))))
	refuse(t, nested, move("/0", "/2/0"), move("/0", "/0/0"), move("/1", "/1/-"))
	for _, leaf := range leaves() {
		hold(t, leaf, move("", ""), leaf)
		refuse(t, leaf, move("/0", "/0"), move("/a", "/a"), move("/a", ""), move("", "/a"))
	}
}

// P15.2
func TestCopy(t *testing.T) {
	ab := object("a", list(number(0), number(1)), "b", object("c", text("x")))
	a, b := ab.V[0], ab.V[1]
	for _, x := range []struct {
		from, at string
		want     api.Tree
	}{
		{"/a", "/c", object("a", a, "b", b, "c", a)}, {"/a", "/a", ab}, {"/a", "/b", object("a", a, "b", a)}, {"/b", "/b/b", object("a", a, "b", object("b", b, "c", text("x")))}, {"/b", "/b/c", object("a", a, "b", object("c", b))}, {"/b/c", "/b", object("a", a, "b", text("x"))},
		{"/a/0", "/a/0", object("a", list(number(0), number(0), number(1)), "b", b)}, {"/a/0", "/a/2", object("a", list(number(0), number(1), number(0)), "b", b)}, {"/a/1", "/a/-", object("a", list(number(0), number(1), number(1)), "b", b)}, {"/a", "/a/-", object("a", list(number(0), number(1), a), "b", b)},
		{"", "/c", object("a", a, "b", b, "c", ab)}, {"", "/a/1", object("a", list(number(0), ab, number(1)), "b", b)}, {"", "", ab}, {"/b", "", b}, {"/b/c", "", text("x")},
	} {
		hold(t, ab, duplicate(x.from, x.at), x.want)
	}
	refuse(t, ab, duplicate("/z", "/a"), duplicate("/z", "/z"), duplicate("/z", ""), duplicate("/a/2", "/a/0"), duplicate("/a/-", "/a/0"), duplicate("/a/0", "/a/3"), duplicate("/a/0", "/a/x"), duplicate("/a", "/c/d"), duplicate("/a", "/b/c/d"), duplicate("/a/0/0", "/c"))
	for _, leaf := range leaves() {
		hold(t, leaf, duplicate("", ""), leaf)
		refuse(t, leaf, duplicate("", "/a"), duplicate("", "/-"), duplicate("/a", ""), duplicate("/0", "/0"))
	}
}

// P15.2
func TestTest(t *testing.T) {
	v := object("a", list(number(10), text("x"), blob("x")), "b", null())
	for at, w := range map[string]api.Tree{"": v, "/a": v.V[0], "/a/0": number(10), "/a/1": text("x"), "/a/2": blob("x"), "/b": null()} {
		hold(t, v, test(at, copied(w)), v)
		for _, other := range []api.Tree{{}, {Kind: api.Bool}, number(1), text("y"), list(), object(), list(v), object("a", v.V[0])} {
			refuse(t, v, test(at, other))
		}
	}
	hold(t, v, test("/b", filled(api.Null, list(null()))), v) // of a Null other fields play no part
	refuse(t, v, test("/c", null()), test("/c", api.Tree{}), test("/a/3", null()), test("/a/-", blob("x")), test("/a/00", number(10)), test("/a/1", blob("x")), test("/a/2", text("x")), test("/b/c", null()), test("/b/c", api.Tree{}))
	for _, other := range []api.Tree{list(number(10), text("x")), list(text("x"), number(10), blob("x")), list(number(10), text("x"), blob("x"), null())} {
		refuse(t, v, test("/a", other))
	}
}

// P15.2: what is none of the six does not go, whatever stands in it.
func TestNoOperation(t *testing.T) {
	v := object("a", null())
	for _, kind := range []int{math.MinInt, -1, 0, 7, 8, 1<<32 + api.Add, 1<<32 + api.Test, math.MaxInt} {
		for _, of := range []api.Tree{v, {}, null()} {
			for _, o := range []api.Op{{}, test("", of), remove("/a"), move("", "")} {
				o.Op = kind
				if got, ok := ops.One(of, o); ok || !exact(got, api.Tree{}) {
					t.Errorf("kind %d of %v: %v, %t", kind, of, got, ok)
				}
			}
		}
	}
}

// P15.2: what an operation has beside what it needs plays no part, and what is put may be anything.
func TestOneTakes(t *testing.T) {
	v := object("a", list(number(1)))
	odd := api.Op{Path: path("/a/0"), From: path("/z/z"), Value: null()}
	for kind, want := range map[int]api.Tree{api.Add: object("a", list(null(), number(1))), api.Remove: object("a", list()), api.Replace: object("a", list(null())), api.Move: {}, api.Copy: {}, api.Test: {}} {
		o := odd
		o.Op = kind
		hold(t, v, o, want)
	}
	for _, w := range []api.Tree{{}, filled(9, list(null())), text("\xff"), list(many(400, null())...)} {
		for at, want := range map[string]api.Tree{"": w, "/a/-": object("a", list(number(1), w)), "/b": object("a", list(number(1)), "b", w)} {
			if got, ok := ops.One(v, add(at, w)); !ok || !exact(got, want) {
				t.Errorf("Add of %v at %q: %v, %t", w, at, got, ok)
			}
		}
		if got, ok := ops.One(v, replace("/a", w)); !ok || !exact(got, object("a", w)) {
			t.Errorf("Replace by %v: %v, %t", w, got, ok)
		}
	}
	hold(t, v, api.Op{Op: api.Add, Path: []string{"\xff"}, Value: null()}, object("a", list(number(1)), "\xff", null()))
	for _, many := range []int{299, 300, 301, 9999, 10000, 10001} { // a number has four digits at most
		l := list(slices.Repeat([]api.Tree{number(7)}, many)...)
		for _, at := range []int{0, many - 1, many, many + 1} {
			o := add("/"+strconv.Itoa(at), null())
			got, ok := ops.One(l, o)
			if goes := at <= min(many, 9999); ok != goes || goes && (len(got.V) != many+1 || got.V[at].Kind != api.Null || at < many && got.V[many].Kind != api.Number) {
				t.Errorf("Add at %d of %d: %t", at, many, ok)
			}
			got, ok = ops.One(l, remove("/"+strconv.Itoa(at)))
			if goes := at < many && at <= 9999; ok != goes || goes && len(got.V) != many-1 {
				t.Errorf("Remove at %d of %d: %t", at, many, ok)
			}
		}
		if got, ok := ops.One(l, add("/-", null())); !ok || len(got.V) != many+1 || got.V[many].Kind != api.Null {
			t.Errorf("Add behind %d: %t", many, ok)
		}
	}
}

// P15.2: of objects that may not be: as tree's Member, Set and Unset take them.
func TestOneOdd(t *testing.T) {
	v := number(9)
	short, long, twice := object("a", number(1), "b", number(2)), object("a", number(1), "b", number(2)), object("b", number(1), "a", number(2), "b", number(3))
	short.V, long.K = short.V[:1], long.K[:1]
	hold(t, short, add("/b", v), object("a", number(1), "b", v))
	hold(t, long, add("/b", v), object("a", number(1), "b", v))
	hold(t, long, remove("/a"), object())
	hold(t, twice, add("/b", v), object("b", v, "a", number(2), "b", number(3)))
	hold(t, twice, remove("/b"), object("a", number(2), "b", number(3)))
	hold(t, twice, move("/b", "/c"), object("a", number(2), "b", number(3), "c", number(1)))
	refuse(t, short, remove("/b"), replace("/b", v), duplicate("/b", "/c"), test("/b", number(2)))
	refuse(t, long, remove("/b"), move("/b", "/c"))
}

// P15.2: each operation at and from places of all kinds, against the tests' own.
func TestOneMixed(t *testing.T) {
	r := rand.New(rand.NewSource(15))
	went := map[int]int{}
	for range 80 {
		v := mixed(r, 4)
		l := paths(v, nil)
		r.Shuffle(len(l), func(i, j int) { l[i], l[j] = l[j], l[i] })
		l = append(l[:min(len(l), 24)], nil)
		for _, at := range l {
			for kind := api.Add; kind <= api.Test; kind++ {
				for _, from := range l {
					o := api.Op{Op: kind, Path: at, From: from, Value: mixed(r, 2)}
					if there := grown(v).to(at); kind == api.Test && there != nil && r.Intn(2) == 0 {
						o.Value = there.value()
					}
					want, ok := model(v, o)
					got, is := ops.One(v, o)
					if is != ok || !exact(got, want) {
						t.Fatalf("%s of %v: %v, %t, not %v, %t", told(o), v, got, is, want, ok)
					}
					if !ok {
						continue
					}
					went[kind]++
					if !tree.Check(got) {
						t.Fatalf("%s of %v: %v may not be", told(o), v, got)
					}
				}
			}
		}
	}
	for kind := api.Add; kind <= api.Test; kind++ {
		if went[kind] < 1000 {
			t.Errorf("only %d of kind %d went", went[kind], kind)
		}
	}
}

// roomy is an object of an array and an object, all lists with spare room.
func roomy() api.Tree {
	l := list(append(make([]api.Tree, 0, 9), number(0), number(1), number(2))...)
	v := object("a", l, "b", object("c", null()), "d", null())
	v.K, v.V = append(make([]string, 0, 9), v.K...), append(make([]api.Tree, 0, 9), v.V...)
	return v
}

// R3: what is handed in is not written to, nor its spare room; the lists that an operation makes are the answer's own.
func TestOneMemory(t *testing.T) {
	for _, x := range []struct {
		o   api.Op
		own string // what has a list of its own
	}{
		{add("/a/1", null()), "/a"}, {add("/a/-", null()), "/a"}, {add("/a/0", null()), "/a"}, {add("/c", null()), ""}, {add("/d", null()), ""}, {add("/b/c", null()), "/b"}, {add("/e", null()), ""}, {remove("/a/0"), "/a"}, {remove("/a/2"), "/a"}, {remove("/b/c"), "/b"}, {remove("/d"), ""}, {remove("/a"), ""}, {replace("/a/1", text("x")), "/a"}, {replace("/b/c", text("x")), "/b"}, {move("/a/0", "/a/2"), "/a"}, {move("/a/0", "/b/d"), "/a"}, {move("/d", "/a/0"), "/a"}, {duplicate("/a/0", "/a/1"), "/a"}, {duplicate("/d", "/b/c"), "/b"}, {duplicate("", "/a/-"), "/a"},
	} {
		v, want := roomy(), roomy()
		o := x.o
		o.Path = append(append(make([]string, 0, 9), o.Path...), "x", "y")[:len(o.Path)]
		o.From = append(append(make([]string, 0, 9), o.From...), "x", "y")[:len(o.From)]
		got, ok := ops.One(v, o)
		if !ok || !exact(v, want) {
			t.Fatalf("%s: %t, of %v", told(o), ok, v)
		}
		own := values(got, path(x.own))
		clear(own[:cap(own)])
		if !exact(v, want) || !exact(v.V[:9][8], api.Tree{}) || v.K[:9][8] != "" || !exact(v.V[0].V[:9][8], api.Tree{}) {
			t.Errorf("spoiling what %s answered turned %v", told(o), v)
		}
		if !slices.Equal(o.Path[:len(o.Path)+2][len(o.Path):], []string{"x", "y"}) || !slices.Equal(o.From[:len(o.From)+2][len(o.From):], []string{"x", "y"}) {
			t.Errorf("%s turned its paths", told(o))
		}
	}
}

// values are those in what is at a path of names.
func values(t api.Tree, path []string) []api.Tree {
	for _, token := range path {
		t = t.V[slices.Index(t.K, token)]
	}
	return t.V
}

// R1: no path is too long. The stack is held small, so that a call for each token would show.
func TestOneVeryLong(t *testing.T) {
	defer debug.SetMaxStack(debug.SetMaxStack(4 << 20))
	const levels = 100001
	v := number(1)
	for range levels {
		v = list(null(), v)
	}
	at := slices.Repeat([]string{"1"}, levels)
	behind := append(slices.Clone(at[1:]), "-")
	for _, x := range []struct {
		o    api.Op
		goes bool
	}{
		{api.Op{Op: api.Add, Path: at, Value: null()}, true}, {api.Op{Op: api.Add, Path: behind, Value: null()}, true}, {api.Op{Op: api.Remove, Path: at}, true}, {api.Op{Op: api.Replace, Path: at, Value: null()}, true}, {api.Op{Op: api.Move, Path: behind, From: at}, true}, {api.Op{Op: api.Copy, Path: behind, From: at}, true}, {api.Op{Op: api.Test, Path: at, Value: number(1)}, true},
		{api.Op{Op: api.Move, Path: at, From: at[1:]}, false}, {api.Op{Op: api.Remove, Path: behind}, false}, {api.Op{Op: api.Test, Path: at, Value: null()}, false},
	} {
		if got, ok := ops.One(v, x.o); ok != x.goes || (got.Kind != 0) != x.goes {
			t.Errorf("kind %d: %t", x.o.Op, ok)
		}
	}
}

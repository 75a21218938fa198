package ops_test

import (
	"math"
	"math/rand"
	"slices"
	"strconv"
	"strings"
	"testing"

	"erratum/api"
	"erratum/ops"
	"erratum/tree"
)

// P15.3
func TestFitsWeight(t *testing.T) {
	for _, x := range []struct {
		v      api.Tree
		weight int
	}{
		{null(), 1}, {api.Tree{Kind: api.Bool, B: true}, 1}, {number(0), 1}, {number(1), 2}, {number(1 << 40), 3}, {text(""), 1}, {text("\u20ac"), 4}, {blob("xy"), 3}, {list(), 1}, {object(), 1}, {list(null(), number(7)), 4}, {object("abc", null()), 2}, {object("a", list(number(1), text("xy"))), 7}, {crowd(2000), 2000}, {list(many(300, text(strings.Repeat("x", 2000)))...), 1 + 300*2001},
		{api.Tree{}, 1}, {text("\xff"), 2}, {filled(api.Null, api.Tree{}), 1}, {list(filled(9, list(null()))), 3}, {text(strings.Repeat("x", 3000)), 3001}, // what may not be is weighed, too
	} {
		for _, weight := range []int{math.MinInt, -1, 0, x.weight - 1, x.weight, x.weight + 1, math.MaxInt} {
			if got := ops.Fits(x.v, weight); got != (weight >= x.weight) {
				t.Errorf("weight %d of %d: %t", x.weight, weight, got)
			}
		}
	}
}

// P15.3
func TestFitsLimits(t *testing.T) {
	for n := 290; n <= 310; n++ {
		for _, v := range []api.Tree{list(many(n, null())...), wide(n), list(wide(n)), object("a", list(many(n, null())...)), list(null(), list(many(n, list())...), null())} {
			if got := ops.Fits(v, math.MaxInt); got != (n <= 300) {
				t.Errorf("%d items: %t", n, got)
			}
		}
	}
	for n := 1990; n <= 2010; n++ {
		if got := ops.Fits(crowd(n), math.MaxInt); got != (n <= 2000) {
			t.Errorf("%d nodes: %t", n, got)
		}
	}
	for n := 60; n <= 70; n++ {
		inObjects := null()
		for range n - 1 {
			inObjects = object("a", inObjects, "b", null())
		}
		for _, v := range []api.Tree{deep(n-1, null()), deep(n-1, list()), inObjects, list(null(), deep(n-2, text("x")), null())} {
			if got := ops.Fits(v, math.MaxInt); got != (n <= 64) {
				t.Errorf("%d deep: %t", n, got)
			}
		}
	}
	if !ops.Fits(list(many(200, deep(4, null()))...), math.MaxInt) { // many one after the other are no deeper
		t.Error("a flat one")
	}
	for kind := -1; kind <= 9; kind++ { // only an Array and an Object have items
		odd := api.Tree{Kind: kind, V: many(301, null())}
		if got := ops.Fits(list(odd), math.MaxInt); got == (kind == api.Array || kind == api.Object) {
			t.Errorf("301 of kind %d: %t", kind, got)
		}
		odd.V = many(2000, null())
		if ops.Fits(odd, math.MaxInt) {
			t.Errorf("2001 nodes of kind %d", kind)
		}
		odd = api.Tree{Kind: kind, V: []api.Tree{deep(63, null())}}
		if ops.Fits(odd, math.MaxInt) {
			t.Errorf("65 deep in kind %d", kind)
		}
	}
}

// R1: it ends where there is very much, or no end.
func TestFitsEnds(t *testing.T) {
	endless := make([]api.Tree, 2)
	endless[0] = list(endless...)
	endless[1] = list(endless...)
	doubled := null()
	for range 63 {
		doubled = list(doubled, doubled)
	}
	long := null()
	for range 100000 {
		long = list(long)
	}
	for i, v := range []api.Tree{list(endless...), doubled, list(doubled), long, list(many(100000, null())...), {V: many(100000, null())}} {
		if ops.Fits(v, math.MaxInt) {
			t.Errorf("value %d", i)
		}
	}
	if got, at, e := ops.Apply(list(endless...), nil, math.MaxInt); !exact(got, api.Tree{}) || at != -1 || e != api.Arg {
		t.Errorf("an endless one: %v, %d, %d", got, at, e)
	}
	if got, at, e := ops.Apply(null(), []api.Op{add("", list(endless...))}, math.MaxInt); !exact(got, api.Tree{}) || at != -1 || e != api.Arg {
		t.Errorf("an endless one put: %v, %d, %d", got, at, e)
	}
}

// P15.3
func TestApply(t *testing.T) {
	none := api.Tree{}
	full, most := list(many(300, null())...), math.MaxInt
	long := text(strings.Repeat("x", 2000))
	for i, x := range []struct {
		of     api.Tree
		l      []api.Op
		weight int
		want   api.Tree
		at     int
		e      api.Errno
	}{
		{number(1), nil, 0, number(1), -1, api.OK}, {crowd(2000), []api.Op{}, math.MinInt, crowd(2000), -1, api.OK}, {object(), []api.Op{}, -1, object(), -1, api.OK}, // where nothing is done nothing is asked
		{none, nil, most, none, -1, api.Arg}, {text("\xff"), []api.Op{remove("/a")}, most, none, -1, api.Arg}, {list(many(301, null())...), nil, most, none, -1, api.Arg}, {deep(64, null()), []api.Op{add("", null())}, most, none, -1, api.Arg},
		{null(), []api.Op{{}}, most, none, -1, api.Arg}, {null(), []api.Op{test("", null()), remove("/a"), {Op: 7}}, most, none, -1, api.Arg}, {null(), []api.Op{add("", long), add("", none)}, 1, none, -1, api.Arg}, {null(), slices.Repeat([]api.Op{test("", null())}, 61), most, none, -1, api.Arg}, {null(), slices.Repeat([]api.Op{test("", null())}, 60), most, null(), -1, api.OK}, {null(), slices.Repeat([]api.Op{remove("/a")}, 61), most, none, -1, api.Arg},
		{null(), []api.Op{remove("")}, most, none, 0, api.Failed}, {object("a", null()), []api.Op{remove("/a"), remove("/a")}, most, none, 1, api.Failed}, {null(), append(slices.Repeat([]api.Op{test("", null())}, 59), remove("")), most, none, 59, api.Failed}, {object(), []api.Op{add("/a", null()), test("/a", number(1)), add("/b", long)}, 2, none, 1, api.Failed},
		{null(), []api.Op{add("", long)}, 2001, long, -1, api.OK}, {null(), []api.Op{add("", long)}, 2000, none, 0, api.Limit}, {null(), []api.Op{add("", long), remove("/a")}, 2000, none, 0, api.Limit}, {null(), []api.Op{add("", long), remove("/a")}, 2001, none, 1, api.Failed}, {null(), []api.Op{add("", long), add("", null())}, 2000, none, 0, api.Limit}, // what is on the way has to fit
		{long, []api.Op{add("", null())}, 1, null(), -1, api.OK}, {long, []api.Op{test("", long)}, 2000, none, 0, api.Limit}, {long, []api.Op{test("", text("x"))}, 2000, none, 0, api.Failed}, {list(long, long), []api.Op{remove("/1"), remove("/0")}, 2002, list(), -1, api.OK}, {list(long, long), []api.Op{remove("/1"), remove("/0")}, 2001, none, 0, api.Limit}, // what it begins with has not
		{null(), []api.Op{test("", null())}, 0, none, 0, api.Limit}, {null(), []api.Op{test("", null())}, -1, none, 0, api.Limit}, {null(), []api.Op{test("", null())}, 1, null(), -1, api.OK},
		{full, []api.Op{add("/-", null())}, most, none, 0, api.Limit}, {full, []api.Op{remove("/7"), add("/-", null())}, most, full, -1, api.OK}, {full, []api.Op{add("/0", null()), remove("/0")}, most, none, 0, api.Limit}, {wide(300), []api.Op{add("/a", null())}, most, none, 0, api.Limit}, {wide(300), []api.Op{add("/10000", null())}, most, wide(300), -1, api.OK}, {wide(299), []api.Op{add("/10299", null())}, most, wide(300), -1, api.OK}, {list(full), []api.Op{test("/0/299", null()), move("/0/0", "/0/-"), duplicate("/0/0", "/0/300")}, most, none, 2, api.Limit},
		{deep(63, list()), []api.Op{{Op: api.Add, Path: slices.Repeat([]string{"0"}, 64), Value: null()}}, most, none, -1, api.Arg}, {deep(62, list()), []api.Op{add(strings.Repeat("/0", 63), null())}, most, deep(63, null()), -1, api.OK}, {deep(62, list()), []api.Op{add(strings.Repeat("/0", 63), list()), add(strings.Repeat("/0", 63), list(null()))}, most, none, 1, api.Limit}, {list(deep(62, null())), []api.Op{duplicate("", "/0")}, most, none, 0, api.Limit},
		{crowd(1999), []api.Op{add("/-", null())}, most, list(append(crowd(1999).V, null())...), -1, api.OK}, {crowd(1999), []api.Op{add("/-", null()), add("/-", null())}, most, none, 1, api.Limit}, {crowd(1001), []api.Op{duplicate("", "/-")}, most, none, 0, api.Limit}, {crowd(1000), []api.Op{duplicate("", "/-")}, most, list(append(crowd(1000).V, crowd(1000))...), -1, api.OK},
	} {
		before := copied(x.of)
		if got, at, e := ops.Apply(x.of, x.l, x.weight); !exact(got, x.want) || at != x.at || e != x.e {
			t.Errorf("%d: kind %d, %d, %d", i, got.Kind, at, e)
		}
		if !exact(x.of, before) {
			t.Errorf("%d: turned", i)
		}
	}
}

// P15.3: what is doubled again and again is Limit as soon as it does not fit.
func TestApplyDoubles(t *testing.T) {
	for weight, want := range map[int]int{1: 0, 2: 1, 3: 1, 8: 3, 63: 5, 64: 6, math.MaxInt: 10} {
		l := slices.Repeat([]api.Op{duplicate("", "/-")}, 60)
		if got, at, e := ops.Apply(list(), l, weight); at != want || e != api.Limit || got.Kind != 0 {
			t.Errorf("at most %d: %d, %d", weight, at, e)
		}
	}
}

// fits is what Fits must answer of a value that may be.
func fits(v api.Tree, weight int) bool {
	return tree.Check(v) && tree.Weight(v) <= weight
}

// modelled is what Apply must answer.
func modelled(v api.Tree, l []api.Op, weight int) (api.Tree, int, api.Errno) {
	for i, o := range l {
		behind, ok := model(v, o)
		if !ok {
			return api.Tree{}, i, api.Failed
		}
		if !fits(behind, weight) {
			return api.Tree{}, i, api.Limit
		}
		v = behind
	}
	return v, -1, api.OK
}

// script is some operations on a value, most of which go.
func script(r *rand.Rand, v api.Tree) (l []api.Op) {
	for range r.Intn(12) {
		places := paths(v, nil)
		for {
			o := api.Op{Op: 1 + r.Intn(6), Path: places[r.Intn(len(places))]}
			switch there := grown(v).to(o.Path); o.Op {
			case api.Move, api.Copy:
				o.From = places[r.Intn(len(places))]
			case api.Add, api.Replace:
				o.Value = mixed(r, 2)
			case api.Test:
				o.Value = null()
				if there != nil {
					o.Value = there.value()
				}
			}
			behind, ok := model(v, o)
			if ok || r.Intn(60) == 0 {
				l = append(l, o)
			}
			if ok {
				v = behind
				break
			}
		}
	}
	return l
}

// P15.3, P15.4: so many operations, and then so many more, are as many at once.
func TestApplyMixed(t *testing.T) {
	r := rand.New(rand.NewSource(154))
	told := map[api.Errno]int{}
	for i := range 1000 {
		v := mixed(r, 3)
		l, weight := script(r, v), 10+r.Intn(60)
		before := copied(v)
		want, at, e := modelled(v, l, weight)
		got, is, err := ops.Apply(v, l, weight)
		told[err]++
		if !exact(got, want) || is != at || err != e || !exact(v, before) {
			t.Fatalf("%d: %v, %d, %d, not %v, %d, %d", i, got, is, err, want, at, e)
		}
		for n := range len(l) + 1 {
			half, is, err := ops.Apply(v, l[:n], weight)
			if err == api.OK {
				half, is, err = ops.Apply(half, l[n:], weight)
				if is >= 0 {
					is += n
				}
			}
			if !exact(half, want) || is != at || err != e {
				t.Fatalf("%d, parted at %d: %v, %d, %d, not %v, %d, %d", i, n, half, is, err, want, at, e)
			}
		}
		if !exact(v, before) {
			t.Fatalf("%d: turned", i)
		}
	}
	for _, e := range []api.Errno{api.OK, api.Failed, api.Limit} {
		if told[e] < 100 {
			t.Errorf("only %d told %d", told[e], e)
		}
	}
}

// P15.4: what fails turns nothing, and what an answer is made into turns no earlier one.
func TestApplyStays(t *testing.T) {
	v, want := roomy(), roomy()
	for n := range 8 {
		l := []api.Op{add("/a/-", null()), remove("/a/0"), move("/b", "/a/0"), replace("/d", list()), duplicate("/a", "/d/-"), add("/c", text("x")), remove("/a"), remove("/z")}[:n+1]
		_, at, e := ops.Apply(v, l, math.MaxInt)
		if fails := n == 7; (e == api.Failed) != fails || fails && at != 7 || !fails && at != -1 {
			t.Errorf("%d operations: %d, %d", n+1, at, e)
		}
		if _, _, e = ops.Apply(v, l, 6); e != api.Limit {
			t.Errorf("%d operations within 6: %d", n+1, e)
		}
		if !exact(v, want) || !exact(v.V[:9][8], api.Tree{}) || !exact(v.V[0].V[:9][8], api.Tree{}) {
			t.Errorf("%d operations turned %v", n+1, v)
		}
	}
	answers := []api.Tree{list()}
	for n := range 20 {
		next, _, e := ops.Apply(answers[n], []api.Op{add("/-", number(n))}, math.MaxInt)
		other, _, _ := ops.Apply(answers[n], []api.Op{add("/-", null())}, math.MaxInt)
		if e != api.OK || len(other.V) != n+1 {
			t.Fatal(n, e)
		}
		answers = append(answers, next)
	}
	for n, v := range answers {
		for i := range n {
			if !exact(v.V[i], number(i)) {
				t.Errorf("answer %d, item %s: %v", n, strconv.Itoa(i), v.V[i])
			}
		}
	}
}

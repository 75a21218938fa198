package merge_test

import (
	"math"
	"math/rand"
	"slices"
	"strings"
	"testing"

	"erratum/api"
	"erratum/merge"
	"erratum/tree"
)

// applies holds Apply against what it must answer.
func applies(t *testing.T, of, p api.Tree, weight int, want api.Tree, e api.Errno) {
	t.Helper()
	was, with := copied(of), copied(p)
	if got, err := merge.Apply(of, p, weight); !exact(got, want) || err != e {
		t.Errorf("kind %d into kind %d within %d: kind %d, %d, not %d", p.Kind, of.Kind, weight, got.Kind, err, e)
	}
	if !exact(of, was) || !exact(p, with) {
		t.Error("one of them is turned")
	}
}

// bad are values that may not be.
func bad() []api.Tree {
	ab := object("a", null(), "b", null())
	l := []api.Tree{
		text("\xff"), text(strings.Repeat("x", 2001)), blob(strings.Repeat("x", 2001)), list(many(301, null())...), wide(0, 301, null()), crowd(2001), nest(64, null(), inA), nest(64, null(), inArray),
		cut(ab, 1, 2), cut(ab, 2, 1), object("b", null(), "a", null()), object("a", null(), "a", null()), object("\xff", null()), object(strings.Repeat("x", 2001), null()), {Kind: api.Number, N: api.Num{M: []uint32{10}}},
		{Kind: api.Object, S: "x"}, {Kind: api.Array, K: []string{"a"}}, {Kind: api.Null, V: []api.Tree{null()}},
	}
	for _, kind := range []int{math.MinInt, -1, 0, 8, 1<<32 + api.Null, math.MaxInt} {
		l = append(l, api.Tree{Kind: kind})
	}
	return l
}

// P16.2: Arg is told ahead of Limit, of either one, however deep it lies.
func TestApplyArg(t *testing.T) {
	good := []api.Tree{null(), object(), object("a", number(1), "z", null()), list(null())}
	for _, v := range bad() {
		for _, odd := range []api.Tree{v, inA(v), list(null(), v), object("a", null(), "b", object("c", v))} {
			for _, weight := range []int{math.MinInt, 0, 1, 1000, math.MaxInt} {
				for _, other := range good {
					applies(t, odd, other, weight, api.Tree{}, api.Arg)
					applies(t, other, odd, weight, api.Tree{}, api.Arg)
				}
				applies(t, odd, odd, weight, api.Tree{}, api.Arg)
			}
		}
	}
}

// R1: it ends where a value is within itself.
func TestApplyEnds(t *testing.T) {
	endless := make([]api.Tree, 2)
	for i := range endless {
		endless[i] = api.Tree{Kind: api.Object, K: []string{"a", "b"}, V: endless}
	}
	doubled := nest(63, number(1), func(v api.Tree) api.Tree { return object("a", v, "b", v) })
	for i, odd := range []api.Tree{endless[0], doubled} {
		for _, pair := range [][2]api.Tree{{odd, odd}, {odd, null()}, {null(), odd}, {object(), odd}, {odd, object()}} {
			if got, e := merge.Apply(pair[0], pair[1], math.MaxInt); got.Kind != 0 || e != api.Arg {
				t.Errorf("%d: kind %d, %d", i, got.Kind, e)
			}
		}
	}
}

// P16.2
func TestApplyWeight(t *testing.T) {
	long := text(strings.Repeat("x", 2000))
	for _, x := range []struct {
		of, p, want api.Tree
		weight      int // of what comes of it
	}{
		{object("a", number(1)), object("b", number(1)), object("a", number(1), "b", number(1)), 5}, {null(), null(), null(), 1}, {long, null(), null(), 1}, {null(), long, long, 2001}, {object("a", long), inA(null()), object(), 1}, {inA(long), inA(number(1)), inA(number(1)), 3}, {inA(long), object(), inA(long), 2002}, {inA(long), object("b", null()), inA(long), 2002}, {number(7), inA(inA(null())), inA(object()), 2}, {object(), object("a", list(number(1), text("xy"))), object("a", list(number(1), text("xy"))), 7}, {object("abc", null()), object(), object("abc", null()), 2}, {text("ab"), number(1 << 40), number(1 << 40), 3}, {inA(null()), object("b", truth(true)), object("a", null(), "b", truth(true)), 3}, {object(), inA(blob("\xff\xff")), inA(blob("\xff\xff")), 4},
		{list(many(300, long)...), object(), object(), 1}, {object(), inA(list(many(300, long)...)), inA(list(many(300, long)...)), 2 + 300*2001},
	} {
		for _, weight := range []int{math.MinInt, -1, 0, x.weight - 1, x.weight, x.weight + 1, math.MaxInt} {
			if weight >= x.weight {
				applies(t, x.of, x.p, weight, x.want, api.OK)
			} else {
				applies(t, x.of, x.p, weight, api.Tree{}, api.Limit)
			}
		}
	}
}

// P16.2
func TestApplyLimits(t *testing.T) {
	one := number(1)
	for n := 0; n <= 300; n += 60 { // members
		for more := 295 - n; more <= 305-n; more++ {
			if more < 0 || more > 300 {
				continue
			}
			of, p := wide(0, n, one), wide(n, more, one)
			want := wide(0, n+more, one)
			if n+more > 300 {
				applies(t, of, p, math.MaxInt, api.Tree{}, api.Limit)
				applies(t, inA(of), inA(p), math.MaxInt, api.Tree{}, api.Limit)
				applies(t, inA(p), inA(of), math.MaxInt, api.Tree{}, api.Limit)
				continue
			}
			applies(t, of, p, math.MaxInt, want, api.OK)
			applies(t, inA(of), inA(p), math.MaxInt, inA(want), api.OK)
			applies(t, inA(p), inA(of), math.MaxInt, inA(want), api.OK)
		}
	}
	full := wide(0, 300, one)
	applies(t, full, object("10000", null(), "x", one), math.MaxInt, object(append(pairs(wide(1, 299, one)), "x", one)...), api.OK)
	applies(t, full, object("x", null()), math.MaxInt, full, api.OK)
	applies(t, full, object("10007", one), math.MaxInt, full, api.OK)
	applies(t, full, object("a", object()), math.MaxInt, api.Tree{}, api.Limit)
	applies(t, object("a", full, "b", one), object("a", object("z", one), "b", null()), math.MaxInt, api.Tree{}, api.Limit)
	applies(t, object("a", list(many(300, one)...)), object("b", list(many(300, one)...)), math.MaxInt, object("a", list(many(300, one)...), "b", list(many(300, one)...)), api.OK)
	for n := 990; n <= 1010; n++ { // values
		of, p, both := inA(crowd(999)), object("b", crowd(n)), object("a", crowd(999), "b", crowd(n))
		if n <= 1000 {
			applies(t, of, p, math.MaxInt, both, api.OK)
		} else {
			applies(t, of, p, math.MaxInt, api.Tree{}, api.Limit)
		}
		applies(t, of, inA(crowd(n)), math.MaxInt, inA(crowd(n)), api.OK)
		applies(t, object("a", crowd(999), "c", crowd(500)), object("a", null(), "b", crowd(n)), math.MaxInt, object("b", crowd(n), "c", crowd(500)), api.OK)
	}
	for depth := 1; depth <= 64; depth++ { // as deep as the deeper one
		of, p := nest(depth-1, null(), inA), object("b", one)
		if depth == 1 {
			applies(t, of, p, math.MaxInt, p, api.OK)
			continue
		}
		applies(t, of, p, math.MaxInt, object("a", of.V[0], "b", one), api.OK)
		applies(t, p, nest(depth-1, one, inA), math.MaxInt, object("a", nest(depth-2, one, inA), "b", one), api.OK)
		applies(t, nest(63, null(), inA), nest(depth-1, one, inA), math.MaxInt, nest(depth-1, one, inA), api.OK)
		applies(t, nest(63, null(), inA), nest(depth-1, null(), inA), math.MaxInt, nest(depth-2, object(), inA), api.OK)
	}
}

// P16.2, P16.3
func TestApplyMixed(t *testing.T) {
	r := rand.New(rand.NewSource(162))
	told := map[api.Errno]int{}
	for range 10000 {
		of, p, weight := mixed(r, 4), mixed(r, 4), r.Intn(40)
		want, e := model(of, p), api.OK
		if tree.Weight(want) > weight {
			want, e = api.Tree{}, api.Limit
		}
		told[e]++
		applies(t, of, p, weight, want, e)
		if e == api.OK {
			applies(t, want, p, weight, want, api.OK)
		}
	}
	if told[api.OK] < 1000 || told[api.Limit] < 1000 {
		t.Errorf("told: %v", told)
	}
}

// roomy is an object of objects, all lists with spare room.
func roomy() api.Tree {
	v := object("b", object("c", number(1), "e", null()), "d", list(number(1)), "f", object())
	for _, l := range []*api.Tree{&v.V[0], &v.V[1], &v.V[2], &v} {
		l.K, l.V = append(make([]string, 0, 9), l.K...), append(make([]api.Tree, 0, 9), l.V...)
	}
	return v
}

// R3: what is handed in is not written to, nor its spare room, and the lists that a merge turns are the answer's own.
func TestMemory(t *testing.T) {
	for _, p := range []api.Tree{
		object("a", null()), object("a", number(2)), object("b", number(2)), object("b", null()), object("z", object("y", number(2))), object("b", object("a", number(2))), object("b", object("c", null())), object("b", object("d", number(2)), "d", null(), "f", object("g", number(2))), object("d", object("e", null())), roomy(),
	} {
		of, with, want := roomy(), copied(p), roomy()
		got := merge.Merge(of, p)
		told := copied(got)
		for _, l := range [][]api.Tree{of.V, of.V[0].V, of.V[1].V, of.V[2].V} {
			if !exact(l[:9][8], api.Tree{}) || !exact(l[:len(l)+1][len(l)], api.Tree{}) {
				t.Errorf("%v wrote to spare room", p)
			}
		}
		if of.K[:4][3] != "" || of.V[0].K[:3][2] != "" || of.V[2].K[:1][0] != "" {
			t.Errorf("%v wrote to names' spare room", p)
		}
		again, _ := merge.Apply(got, object("b", object("c", text("x"))), math.MaxInt)
		if !exact(of, want) || !exact(p, with) || !exact(got, told) || again.Kind != api.Object {
			t.Errorf("%v turned what it was merged into, or what came of it was", p)
		}
		if exact(got, of) {
			continue
		}
		clear(got.V[:cap(got.V)])
		for i := range got.K[:cap(got.K)] {
			got.K[:cap(got.K)][i] = "spoiled"
		}
		if !exact(of, want) || !exact(p, with) {
			t.Errorf("spoiling what came of %v turned what was handed in", with)
		}
	}
}

// R3, R4: an answer is what it is, whatever comes behind it.
func TestAnswersStay(t *testing.T) {
	answers := []api.Tree{object("a", object())}
	for n := range 100 {
		name := string(rune('A' + n))
		next, e := merge.Apply(answers[n], inA(object(name, number(n))), math.MaxInt)
		if other, err := merge.Apply(answers[n], inA(object("\x00", null(), name, null())), math.MaxInt); e != api.OK || err != api.OK || !exact(other, answers[n]) {
			t.Fatal(n, e, err)
		}
		answers = append(answers, next)
	}
	for n, v := range answers {
		if !slices.Equal(v.K, []string{"a"}) || len(v.V[0].K) != n || len(v.V[0].V) != n {
			t.Fatalf("answer %d: %v", n, v.K)
		}
		for i, w := range v.V[0].V {
			if !exact(w, number(i)) {
				t.Errorf("answer %d, value %d: %v", n, i, w)
			}
		}
	}
}

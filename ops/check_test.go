package ops_test

import (
	"math"
	"slices"
	"strings"
	"testing"

	"erratum/api"
	"erratum/num"
	"erratum/ops"
)

// somePath is a path, with whether it may be an operation's.
type somePath struct {
	path []string
	ok   bool
}

// someValue is a value, with whether it may be, and whether it is zero.
type someValue struct {
	v        api.Tree
	ok, zero bool
}

// somePaths are paths of all kinds, that of no token first.
func somePaths() (l []somePath) {
	x := strings.Repeat("x", 2000)
	euro := strings.Repeat("\u20ac", 667) // 2001 bytes
	hold := func(ok bool, path ...string) { l = append(l, somePath{path, ok}) }
	hold(true)
	for _, token := range []string{"", "a", "-", "0", "01", "~", "/", "a~1b", "\x00", "\u20ac", "\ufffd", "\U0010ffff", x, euro[:1998], "xx" + euro[3:]} {
		hold(true, token)
		hold(true, "a", token, "b")
		hold(true, slices.Repeat([]string{token}, 63)...)
		hold(false, slices.Repeat([]string{token}, 64)...)
		hold(false, slices.Repeat([]string{token}, 1000)...)
	}
	for _, token := range []string{"\xff", "a\x80", "\xc0\x80", "\xed\xa0\x80", "\xf4\x90\x80\x80", "\xe2\x82", "\xe2\x82/\xac", x + "x", euro, x + x, x[1:] + "\xff"} {
		hold(false, token)
		hold(false, token, "a")
		hold(false, "a", token)
		hold(false, append(slices.Repeat([]string{"a"}, 62), token)...)
		hold(false, append([]string{token}, slices.Repeat([]string{"a"}, 62)...)...)
	}
	return l
}

// someValues are values of all kinds, zero first.
func someValues() (l []someValue) {
	hold := func(ok, zero bool, values ...api.Tree) {
		for _, v := range values {
			l = append(l, someValue{v, ok, zero})
		}
	}
	hold(false, true, api.Tree{}, api.Tree{K: []string{}, V: []api.Tree{}, N: api.Num{M: []uint32{}}}, api.Tree{K: make([]string, 0, 3), V: make([]api.Tree, 0, 3)})
	hold(true, false, null(), number(0), number(-7), text(""), text(strings.Repeat("x", 2000)), blob("\xff"), list(), object(), api.Tree{Kind: api.Bool}, api.Tree{Kind: api.Bool, B: true}, deep(63, null()), crowd(2000), list(many(300, null())...), wide(300), object("a", null(), "b", list()))
	hold(false, false, api.Tree{S: "x"}, api.Tree{B: true}, api.Tree{N: num.Of(1)}, api.Tree{N: api.Num{Neg: true}}, api.Tree{N: api.Num{E: 1}}, api.Tree{K: []string{""}}, api.Tree{V: []api.Tree{{}}}, filled(0, list(null())))
	hold(false, false, api.Tree{Kind: -1}, api.Tree{Kind: 8}, api.Tree{Kind: math.MinInt}, api.Tree{Kind: 1<<32 + api.Null}, text("\xff"), text(strings.Repeat("x", 2001)), deep(64, null()), crowd(2001), list(many(301, null())...), wide(301), object("b", null(), "a", null()), object("a", null(), "a", null()), list(api.Tree{}), filled(api.Null, api.Tree{}), filled(api.Array, list()), api.Tree{Kind: api.Number, N: api.Num{M: []uint32{10}}})
	return l
}

// P15.1: operations of all kinds, with values of all kinds, and with one path or two.
func TestCheck(t *testing.T) {
	l, values := somePaths(), someValues()
	went := map[int]int{}
	for _, kind := range []int{math.MinInt, -1, 0, api.Add, api.Remove, api.Replace, api.Move, api.Copy, api.Test, 7, 8, 1<<32 + api.Remove, math.MaxInt} {
		valued := kind == api.Add || kind == api.Replace || kind == api.Test
		two := kind == api.Move || kind == api.Copy
		hold := func(at, from somePath, x someValue) {
			want := at.ok && (two && from.ok || len(from.path) == 0) && (valued && x.ok || !valued && x.zero) && kind >= 1 && kind <= 6
			if got := ops.Check([]api.Op{{Op: kind, Path: at.path, From: from.path, Value: x.v}}); got != want {
				t.Fatalf("kind %d, path %.40q, from %.40q, %v: %t", kind, at.path, from.path, x.v, got)
			}
			if want {
				went[kind]++
			}
		}
		for _, x := range values {
			for i, at := range l[:20] {
				hold(at, l[0], x)
				hold(l[0], at, x)
				hold(l[i/2], at, x)
			}
		}
		for _, x := range []someValue{values[0], {null(), true, false}} {
			for _, at := range l {
				hold(at, l[0], x)
				hold(l[0], at, x)
				hold(at, at, x)
				hold(at, l[1], x)
				hold(l[1], at, x)
			}
		}
	}
	for kind := 1; kind <= 6; kind++ {
		if went[kind] < 50 {
			t.Errorf("only %d of kind %d may be", went[kind], kind)
		}
	}
}

// P15.1
func TestCheckMany(t *testing.T) {
	good := []api.Op{add("/a", null()), remove(""), replace("", list()), move("", "/a"), duplicate("/a/b", ""), test("/a/-", text("x")), {Op: api.Move, Path: []string{}, From: []string{}}, {Op: api.Remove, From: []string{}}, {Op: api.Add, From: make([]string, 0, 3), Value: null()}}
	bad := []api.Op{{}, {Op: 7}, add("/a", api.Tree{}), remove("/\xc3\xa9"), move("/a", "/b"), test("", text("\xff"))}
	bad[3].From, bad[4].Value = []string{"a"}, null()
	for n := range 65 {
		var l []api.Op
		for i := range n {
			l = append(l, good[i%len(good)])
		}
		if got := ops.Check(l); got != (n <= 60) {
			t.Errorf("%d operations: %t", n, got)
		}
		for i := range l {
			for _, o := range bad {
				with := slices.Clone(l)
				with[i] = o
				if ops.Check(with) {
					t.Errorf("%d operations, that at %d is %v", n, i, o)
				}
			}
		}
	}
	if ops.Check(make([]api.Op, 1<<20)) || ops.Check(slices.Repeat([]api.Op{remove("/a")}, 1<<20)) {
		t.Error("very many")
	}
}

// R3: what is handed in stays as it is.
func TestCheckStays(t *testing.T) {
	l := []api.Op{move("/a/b", "/c/d"), duplicate("/a", "/b"), add("/a", object("a", number(1))), {Op: api.Remove, Value: api.Tree{S: "x"}}}
	for n := range 5 {
		if got := ops.Check(l[:n]); got != (n < 4) {
			t.Errorf("%d: %t", n, got)
		}
	}
	if !slices.Equal(l[0].From, path("/a/b")) || !slices.Equal(l[0].Path, path("/c/d")) || !slices.Equal(l[1].From, path("/a")) || !exact(l[2].Value, object("a", number(1))) || !exact(l[3].Value, api.Tree{S: "x"}) || l[0].Value.Kind != 0 {
		t.Errorf("turned: %v", l)
	}
}

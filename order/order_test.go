package order_test

import (
	"math/rand"
	"slices"
	"strconv"
	"strings"
	"testing"

	"erratum/api"
	"erratum/order"
	"erratum/tree"
)

// rising is names in their order by bytes.
func rising() []string {
	return []string{"", "\x00", "\x00\x00", "\x00a", "\n", " ", "!", "10", "9", "A", "AB", "Z", "a", "a\x00", "a\x00\x00", "a ", "aA", "aa", "aaa", "ab", "abc", "ab\xff", "ac", "a\x7f", "a\u00e9", "b", "ba", "\x7f", "\x7f\xff", "\x80", "\x80\x00", "\u00e9", "\ud7ff", "\ue000", "\uffff", "\U00010000", "\U0010ffff", "\xfe", "\xff", "\xff\x00", "\xff\xff"}
}

// risingCBOR is names in CBOR's order.
func risingCBOR() []string {
	return []string{"", "\x00", " ", "9", "A", "a", "b", "\x7f", "\x80", "\xff", "\x00\x00", "\x00a", "10", "Z0", "a\x00", "aa", "ab", "b\x00", "\x7f\xff", "\x80\x00", "\u00e9", "\xff\x00", "\xff\xff", "aaa", "aab", "aba", "\uffff", "\xff\xff\xff", "\x00\x00\x00\x00", "zzzz", "\U00010000", strings.Repeat("a", 255), strings.Repeat("b", 255), strings.Repeat("a", 256), strings.Repeat("a", 2001), strings.Repeat("a", 2000) + "b", "\xff" + strings.Repeat("a", 2000), strings.Repeat("\x00", 70000)}
}

// ahead is what Less must answer, byte by byte.
func ahead(a, b string) bool {
	for i := 0; i < len(a) && i < len(b); i++ {
		if a[i] != b[i] {
			return a[i] < b[i]
		}
	}
	return len(a) < len(b)
}

// aheadCBOR is what CBOR's order says of two.
func aheadCBOR(a, b string) bool {
	if len(a) == len(b) {
		return ahead(a, b)
	}
	return len(a) < len(b)
}

// placesBy is what Sort and CBOR must answer: a key's place among the sorted is how many stand ahead of it.
func placesBy(keys []string, ahead func(a, b string) bool) []int {
	places := make([]int, len(keys))
	for i, key := range keys {
		many := 0
		for k, other := range keys {
			if ahead(other, key) || other == key && k < i {
				many++
			}
		}
		places[many] = i
	}
	return places
}

// twice is what Twice must answer.
func twice(keys []string) (int, bool) {
	for i, key := range keys {
		if slices.Contains(keys[:i], key) {
			return i, true
		}
	}
	return 0, false
}

// mixed is keys of few letters, so that some are the same now and then, the more the fewer there are to take from.
func mixed(r *rand.Rand, many, letters int) []string {
	keys := make([]string, many)
	for i := range keys {
		b := make([]byte, r.Intn(4))
		for k := range b {
			b[k] = "a\x00\xffbz\x7f\x80\xc3\xa9A"[r.Intn(letters)]
		}
		keys[i] = string(b)
	}
	return keys
}

// samples are lists of keys of all lengths up to 80.
func samples() (l [][]string) {
	r := rand.New(rand.NewSource(6))
	for many := range 81 {
		for letters := 1; letters <= 10; letters++ {
			l = append(l, mixed(r, many, letters))
		}
	}
	return l
}

// texts is a list of values, each of which tells its place.
func texts(many int) []api.Tree {
	vals := make([]api.Tree, many)
	for i := range vals {
		vals[i] = api.Tree{Kind: api.Text, S: strconv.Itoa(i)}
	}
	return vals
}

// exact tells whether all fields of two are the same.
func exact(a, b api.Tree) bool {
	return a.Kind == b.Kind && a.B == b.B && a.S == b.S && a.N.Neg == b.N.Neg && a.N.E == b.N.E && slices.Equal(a.N.M, b.N.M) && slices.Equal(a.K, b.K) && slices.EqualFunc(a.V, b.V, exact)
}

// P6.1
func TestLess(t *testing.T) {
	l := rising()
	for i, a := range l {
		for k, b := range l {
			if got := order.Less(a, b); got != (i < k) {
				t.Errorf("Less of %q and %q: %v", a, b, got)
			}
		}
	}
	long := strings.Repeat("a", 5000)
	for _, x := range []struct {
		a, b string
		want bool
	}{{long, long, false}, {long, long + "\x00", true}, {long + "\x00", long, false}, {long + "a", long + "b", true}, {long + "b", long + "aa", false}} {
		if got := order.Less(x.a, x.b); got != x.want {
			t.Errorf("Less of %d bytes and %d: %v", len(x.a), len(x.b), got)
		}
	}
}

// P6.1
func TestLessOfEveryByte(t *testing.T) {
	for a := range 256 {
		for b := range 256 {
			x, y := string([]byte{'x', byte(a), 'b'}), string([]byte{'x', byte(b), 'a'})
			if got := order.Less(x, y); got != (a < b) {
				t.Fatalf("Less of %q and %q: %v", x, y, got)
			}
		}
	}
}

// P6.1
func TestSortNamed(t *testing.T) {
	for i, x := range []struct {
		keys       []string
		sort, cbor []int
	}{
		{nil, nil, nil},
		{[]string{}, nil, nil},
		{[]string{""}, []int{0}, []int{0}},
		{[]string{"a", "b"}, []int{0, 1}, []int{0, 1}},
		{[]string{"b", "a"}, []int{1, 0}, []int{1, 0}},
		{[]string{"b", "a", "b"}, []int{1, 0, 2}, []int{1, 0, 2}},
		{[]string{"a", "a"}, []int{0, 1}, []int{0, 1}},
		{[]string{"", "", "", "", ""}, []int{0, 1, 2, 3, 4}, []int{0, 1, 2, 3, 4}},
		{[]string{"b", "aa", ""}, []int{2, 1, 0}, []int{2, 0, 1}},
		{[]string{"ab", "a", "abc", "b"}, []int{1, 0, 2, 3}, []int{1, 3, 0, 2}},
		{[]string{"bb", "aa", "b", "bb", "a", "aa", "b"}, []int{4, 1, 5, 2, 6, 0, 3}, []int{4, 2, 6, 1, 5, 0, 3}},
		{[]string{"10", "9", "1", "\u00e9", "z", "\xff"}, []int{2, 0, 1, 4, 3, 5}, []int{2, 1, 4, 5, 0, 3}},
	} {
		if got := order.Sort(x.keys); !slices.Equal(got, x.sort) {
			t.Errorf("%d: Sort of %q: %v", i, x.keys, got)
		}
		if got := order.CBOR(x.keys); !slices.Equal(got, x.cbor) {
			t.Errorf("%d: CBOR of %q: %v", i, x.keys, got)
		}
	}
}

// P6.1: whatever the order that names stand in, it is one that they come out in.
func TestSortOfShuffled(t *testing.T) {
	r := rand.New(rand.NewSource(61))
	for _, x := range []struct {
		want []string
		sort func([]string) []int
	}{{rising(), order.Sort}, {risingCBOR(), order.CBOR}} {
		for range 300 {
			keys := slices.Clone(x.want)
			r.Shuffle(len(keys), func(i, k int) { keys[i], keys[k] = keys[k], keys[i] })
			for i, place := range x.sort(keys) {
				if keys[place] != x.want[i] {
					t.Fatalf("at %d: %.40q, not %.40q", i, keys[place], x.want[i])
				}
			}
		}
	}
}

// P6.1
func TestSortMixed(t *testing.T) {
	for _, keys := range samples() {
		if got, want := order.Sort(keys), placesBy(keys, ahead); !slices.Equal(got, want) {
			t.Fatalf("Sort of %q: %v, not %v", keys, got, want)
		}
		if got, want := order.CBOR(keys), placesBy(keys, aheadCBOR); !slices.Equal(got, want) {
			t.Fatalf("CBOR of %q: %v, not %v", keys, got, want)
		}
	}
}

// P6.1
func TestTwiceNamed(t *testing.T) {
	for _, x := range []struct {
		keys  []string
		at    int
		twice bool
	}{
		{nil, 0, false}, {[]string{}, 0, false}, {[]string{""}, 0, false}, {[]string{"a", "b", "c"}, 0, false},
		{[]string{"", ""}, 1, true}, {[]string{"a", "a"}, 1, true}, {[]string{"a", "a", "a"}, 1, true},
		{[]string{"b", "a", "b"}, 2, true}, {[]string{"a", "b", "b", "a"}, 2, true}, {[]string{"b", "a", "a", "b"}, 2, true},
		{[]string{"a", "b", "c", "c", "b", "a"}, 3, true}, {[]string{"c", "b", "a", "a", "b", "c"}, 3, true}, {[]string{"z", "a", "z", "a"}, 2, true}, {[]string{"a", "z", "a", "z"}, 2, true},
		{[]string{"a", "A", "aa", "a\x00", "", " a"}, 0, false}, {[]string{"\u00e9", "e\u0301"}, 0, false}, {[]string{"\xff", "\ufffd", "\xff"}, 2, true},
	} {
		if at, got := order.Twice(x.keys); at != x.at || got != x.twice {
			t.Errorf("Twice of %q: %d, %v", x.keys, at, got)
		}
	}
}

// P6.1
func TestTwiceMixed(t *testing.T) {
	told := 0
	l := append(samples(), rising(), risingCBOR())
	for _, keys := range l {
		wantAt, want := twice(keys)
		if at, got := order.Twice(keys); at != wantAt || got != want {
			t.Fatalf("Twice of %q: %d, %v", keys, at, got)
		}
		if want {
			told++
		}
	}
	if told < 100 || told > len(l)-50 {
		t.Errorf("%d of %d lists had a key twice", told, len(l))
	}
}

// P6.2
func TestObjectNamed(t *testing.T) {
	for _, x := range []struct {
		keys  []string
		many  int // values
		names []string
		from  string // where the values stood
		at    int
		ok    bool
	}{
		{nil, 0, nil, "", 0, true}, {nil, 3, nil, "", 0, true}, {[]string{"a", "a"}, 0, nil, "", 0, true},
		{[]string{"a"}, 1, []string{"a"}, "0", 0, true},
		{[]string{"c", "a", "b"}, 3, []string{"a", "b", "c"}, "120", 0, true},
		{[]string{"", "b", "aa"}, 3, []string{"", "aa", "b"}, "021", 0, true},
		{[]string{"b", "a", "c"}, 2, []string{"a", "b"}, "10", 0, true},
		{[]string{"b", "a"}, 4, []string{"a", "b"}, "10", 0, true},
		{[]string{"\xff", "\x80", "\x00"}, 3, []string{"\x00", "\x80", "\xff"}, "210", 0, true},
		{[]string{"b", "a", "b"}, 2, []string{"a", "b"}, "10", 0, true}, // again only beyond the values
		{[]string{"b", "a", "b"}, 3, nil, "", 2, false},
		{[]string{"b", "a", "b"}, 9, nil, "", 2, false},
		{[]string{"a", "a"}, 1, []string{"a"}, "0", 0, true},
		{[]string{"a", "a"}, 2, nil, "", 1, false},
		{[]string{"a", "b", "c", "c", "b", "a"}, 6, nil, "", 3, false},
		{[]string{"a", "z", "z", "a"}, 4, nil, "", 2, false},
		{[]string{"a", "z", "b", "a", "z"}, 5, nil, "", 3, false},
	} {
		want := api.Tree{}
		if x.ok {
			want = api.Tree{Kind: api.Object, K: x.names}
			for _, place := range x.from {
				want.V = append(want.V, api.Tree{Kind: api.Text, S: string(place)})
			}
		}
		if got, at, ok := order.Object(x.keys, texts(x.many)); !exact(got, want) || at != x.at || ok != x.ok {
			t.Errorf("Object of %q and %d values: %v, %d, %v", x.keys, x.many, got, at, ok)
		}
	}
}

// P6.2
func TestObjectMixed(t *testing.T) {
	for i, keys := range samples() {
		many := max(0, len(keys)+i%7-3)
		got, at, ok := order.Object(keys, texts(many))
		cut := keys[:min(many, len(keys))]
		if wantAt, twice := twice(cut); at != wantAt || ok == twice {
			t.Fatalf("Object of %q and %d values: %d, %v", keys, many, at, ok)
		}
		want := api.Tree{}
		if ok {
			want.Kind = api.Object
			for _, place := range placesBy(cut, ahead) {
				want.K = append(want.K, cut[place])
				want.V = append(want.V, api.Tree{Kind: api.Text, S: strconv.Itoa(place)})
			}
		}
		if !exact(got, want) {
			t.Fatalf("Object of %q and %d values: %v", keys, many, got)
		}
	}
}

// P6.2: members are taken whatever they are, and however many.
func TestObjectRefusesNothingElse(t *testing.T) {
	loop := api.Tree{Kind: api.Array, V: make([]api.Tree, 1)}
	loop.V[0] = loop
	vals := []api.Tree{{}, {Kind: -1}, {Kind: 8, B: true, S: "x", K: []string{"x"}}, {Kind: api.Text, S: "\xff"}, {Kind: api.Object, K: []string{"b", "a", "a"}}, {Kind: api.Number, N: api.Num{M: []uint32{10, 0}, E: 7}}, loop}
	keys := []string{"g", "f", "\xff", strings.Repeat("x", 5000), "b", "a", "h"}
	got, at, ok := order.Object(keys, vals)
	if !ok || at != 0 || got.Kind != api.Object || len(got.V) != len(vals) {
		t.Fatal("odd members", at, ok)
	}
	for i, from := range []int{5, 4, 1, 0, 6, 3, 2} {
		if from == 6 { // it is within itself: no comparison of it ends
			if len(got.V[i].V) != 1 || &got.V[i].V[0] != &loop.V[0] {
				t.Error("what is within itself")
			}
		} else if got.K[i] != keys[from] || !exact(got.V[i], vals[from]) {
			t.Errorf("member %d: %.40q, %v", i, got.K[i], got.V[i])
		}
	}
	many := 3 * api.MaxNodes
	keys = nil
	for i := range many {
		keys = append(keys, strconv.Itoa(100000+i*7919%many))
	}
	if got, _, ok := order.Object(keys, texts(many)); !ok || len(got.K) != many || !slices.IsSorted(got.K) {
		t.Error("many members", ok, len(got.K))
	}
}

// P6.2: of members that may be, the object is a value, and has them.
func TestObjectIsAValue(t *testing.T) {
	keys := []string{"\u00e9", "b", "", "a", "\U0010ffff", "aa"}
	got, _, ok := order.Object(keys, texts(len(keys)))
	if !ok || !tree.Check(got) {
		t.Fatal(got, ok)
	}
	for i, key := range keys {
		if v, ok := tree.Member(got, key); !ok || v.S != strconv.Itoa(i) {
			t.Errorf("member %q: %v, %v", key, v, ok)
		}
	}
}

// rises holds a sort against P6.3: each place once, no key ahead of the one that stands ahead of it, and the same ones as they stood.
func rises(t *testing.T, keys []string, places []int, ahead func(a, b string) bool) {
	t.Helper()
	seen := make([]bool, len(keys))
	for i, place := range places {
		if place < 0 || place >= len(keys) || seen[place] {
			t.Fatalf("place %d of %d keys, at %d", place, len(keys), i)
		}
		seen[place] = true
		if i == 0 {
			continue
		}
		before := places[i-1]
		if ahead(keys[place], keys[before]) || keys[place] == keys[before] && place < before {
			t.Fatalf("%d, %q behind %d, %q", place, keys[place], before, keys[before])
		}
	}
	if len(places) != len(keys) {
		t.Fatalf("%d places of %d keys", len(places), len(keys))
	}
}

// P6.3: every length there is up to some hundreds, and some great ones, in all the shapes that a sort may trip over.
func TestWhatIsSortedRises(t *testing.T) {
	r := rand.New(rand.NewSource(63))
	lengths := []int{511, 512, 513, 1000, 1023, 1024, 1025, 65535, 65536, 65537, 200000}
	for many := range 270 {
		lengths = append(lengths, many)
	}
	for _, many := range lengths {
		up, down, one, some := make([]string, many), make([]string, many), make([]string, many), make([]string, many)
		for i := range many {
			up[i], down[i], one[i], some[i] = strconv.Itoa(i), strconv.Itoa(2*many-i), "x", strconv.Itoa(r.Intn(1+many/2))
		}
		for _, keys := range [][]string{up, down, one, some} {
			rises(t, keys, order.Sort(keys), ahead)
			rises(t, keys, order.CBOR(keys), aheadCBOR)
		}
		if at, got := order.Twice(append(up, "0", "1")); got != (many > 0) || at != many {
			t.Fatalf("Twice of %d keys and two again: %d, %v", many, at, got)
		}
	}
}

// R3: what is handed in stays, with what stands in its spare room, and answers share nothing with it, nor with one another.
func TestListsStay(t *testing.T) {
	for _, all := range samples() {
		was, vals, wasVals := slices.Clone(all), texts(len(all)), texts(len(all))
		keys := all[:len(all)/2]
		first := order.Sort(keys)
		want := slices.Clone(first)
		for _, l := range [][]int{order.Sort(keys), order.CBOR(keys)} {
			for i, spare := 0, l[:cap(l)]; i < len(spare); i++ {
				spare[i] = -1
			}
		}
		order.Twice(keys)
		if got, _, ok := order.Object(keys, vals[:len(keys)]); ok {
			for i, spare := 0, got.K[:cap(got.K)]; i < len(spare); i++ {
				spare[i] = "scribbled"
			}
			clear(got.V[:cap(got.V)])
		}
		if !slices.Equal(all, was) || !slices.EqualFunc(vals, wasVals, exact) || !slices.Equal(first, want) {
			t.Fatalf("of %q: what was handed in, or answered, was changed", was)
		}
	}
}

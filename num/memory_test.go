package num_test

import (
	"slices"
	"testing"

	"erratum/api"
	"erratum/num"
)

// roomy is a list with spare room, all of it in use by somebody else.
func roomy(l []uint32) (list, whole []uint32) {
	whole = append(slices.Clone(l), 11, 12, 13, 14, 15)
	return whole[:len(l)], whole
}

// scribble writes over all of a list, spare room too.
func scribble(l []uint32) {
	l = l[:cap(l)]
	for i := range l {
		l[i] = 0xdeadbeef
	}
}

// TestListsStay: a list that is handed in is neither changed nor shared, nor is its spare room.
func TestListsStay(t *testing.T) {
	lists := [][]uint32{{}, {0}, {7}, {70}, {7, 0}, {0, 0, 3}, {0xffffffff, 0xffffffff}, {1000000000}, {1000, 0, 0}, {1410065408, 2}, {1, 2, 3, 4, 5, 0}, full(90), full(91)}
	for i, l := range lists {
		for _, e := range []int{0, 1, -1, 20, 1200, 1201, -1200} {
			list, whole := roomy(l)
			kept := slices.Clone(whole)
			n := api.Num{M: list, E: e}
			num.Check(n)
			num.Text(n)
			num.Cmp(n, api.Num{M: list, E: -e})
			num.Same(n, n)
			_, m, _ := num.Int(n)
			scribble(m)
			made, _ := num.Make(true, list, e)
			scribble(made.M)
			if !slices.Equal(whole, kept) {
				t.Errorf("list %d was changed, or is shared, with E %d", i, e)
			}
		}
	}
}

// TestAnswersAreNew: what is answered twice shares no memory.
func TestAnswersAreNew(t *testing.T) {
	for _, v := range []int{1, 7, 1200, -15, 1 << 40} {
		scribble(num.Of(v).M)
		if got := num.Of(v); !num.Check(got) || num.Cmp(got, num.Of(v)) != 0 || slices.Contains(got.M, 0xdeadbeef) {
			t.Errorf("Of(%d): %s", v, tell(got))
		}
	}
	for _, s := range []string{"1", "1.5", "1e20", "123456789012345678901234567890"} {
		first, _ := num.Parse(s)
		kept := slices.Clone(first.M)
		second, _ := num.Parse(s)
		scribble(second.M)
		if !slices.Equal(first.M, kept) {
			t.Errorf("two of %s share memory", s)
		}
		_, whole, _ := num.Int(first)
		scribble(whole)
		if third, e := num.Parse(s); e != api.OK || !slices.Equal(third.M, kept) || !slices.Equal(first.M, kept) {
			t.Errorf("%s: %s, %d", s, tell(third), e)
		}
	}
}

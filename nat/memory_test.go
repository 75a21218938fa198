package nat_test

import (
	"slices"
	"strconv"
	"testing"

	"erratum/nat"
)

// answers is what every call that answers lists answers of two.
func answers(a, b []uint32) map[string][]uint32 {
	quo, rem := nat.Div(a, b)
	trimmed, _ := nat.Trim(a)
	return map[string][]uint32{
		"Norm": nat.Norm(a), "Add": nat.Add(a, b), "Sub": nat.Sub(a, b), "Mul": nat.Mul(a, b), "quotient": quo, "left": rem, "Trim": trimmed,
	}
}

// roomy is a list with spare room, all of it in use by somebody else.
func roomy(l []uint32) (list, whole []uint32) {
	whole = append(slices.Clone(l), 11, 12, 13, 14, 15)
	return whole[:len(l)], whole
}

// scribble writes over all of a list, spare room too.
func scribble(l []uint32) {
	l = l[:cap(l)]
	for i := range l {
		l[i] = 0xdeadbeef
	}
}

// TestListsStay: a list that is handed in is neither changed nor kept, nor is its spare room; no two lists that are answered share memory.
func TestListsStay(t *testing.T) {
	lists := [][]uint32{nil, {0}, {7}, {7, 0}, {0, 0, 3}, {0xffffffff, 0xffffffff}, {1000000000}, {1000, 0, 0}, {1, 2, 3, 4, 5, 0}}
	for i, first := range lists {
		for k, second := range lists {
			a, wholeA := roomy(first)
			b, wholeB := roomy(second)
			keptA, keptB := slices.Clone(wholeA), slices.Clone(wholeB)
			nat.Cmp(a, b)
			nat.Bits(a)
			nat.Digits(a)
			got := answers(a, b)
			wanted := answers(slices.Clone(first), slices.Clone(second))
			for name, l := range got {
				if !slices.Equal(l, wanted[name]) {
					t.Errorf("%s of lists %d, %d hangs on something else: %x", name, i, k, l)
				}
				scribble(l)
				delete(wanted, name)
				for other, w := range wanted {
					if !slices.Equal(got[other], w) {
						t.Errorf("%s and %s of lists %d, %d share memory", name, other, i, k)
					}
				}
			}
			if !slices.Equal(wholeA, keptA) || !slices.Equal(wholeB, keptB) {
				t.Errorf("lists %d, %d were changed, or are shared", i, k)
			}
		}
	}
}

// TestOneListTwice: one list handed in as both.
func TestOneListTwice(t *testing.T) {
	for _, l := range mixedLists(40) {
		kept := slices.Clone(l)
		checkSums(t, l, l)
		checkDiv(t, l, l)
		if nat.Cmp(l, l) != 0 || !slices.Equal(l, kept) {
			t.Errorf("%x twice", kept)
		}
	}
}

// TestAnswersAreNew: what is answered twice is no shared memory, neither of Pow's, nor of Parse's.
func TestAnswersAreNew(t *testing.T) {
	for _, n := range []int{0, 1, 2, 5, 13, 40} {
		scribble(nat.Pow(7, n))
		scribble(nat.Pow(0, n))
		checkDiv(t, nat.Pow(7, n), nat.Pow(7, n/2))
		s := strconv.Itoa(123456789 * (n + 1) * (n + 1) * 1000003)
		l, _ := nat.Parse(s)
		scribble(l)
		if l, ok := nat.Parse(s); !ok || nat.Digits(l) != s {
			t.Error(s, l, ok)
		}
	}
	if got := nat.Pow(7, 0); !slices.Equal(got, []uint32{1}) {
		t.Error(got)
	}
}

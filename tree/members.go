package tree

import (
	"slices"

	"erratum/api"
)

// Member is the member of a name.
func Member(t api.Tree, name string) (api.Tree, bool) {
	names, values := members(t)
	at := slices.Index(names, name)
	if at < 0 {
		return api.Tree{}, false
	}
	return values[at], true
}

// Set is with a member.
func Set(t api.Tree, name string, v api.Tree) api.Tree {
	names, values := members(t)
	from := slices.Index(names, name)
	to := from + 1
	if from < 0 {
		from = placeFor(names, name)
		to = from
	}
	return api.Tree{Kind: api.Object, K: with(names, from, to, name), V: with(values, from, to, v)}
}

// Unset is without a member.
func Unset(t api.Tree, name string) api.Tree {
	names, values := members(t)
	at := slices.Index(names, name)
	if at < 0 {
		return t
	}
	return api.Tree{Kind: api.Object, K: with(names, at, at+1), V: with(values, at, at+1)}
}

// members are an object's names and values, as many of both; of another value none. They share t's memory.
func members(t api.Tree) ([]string, []api.Tree) {
	if t.Kind != api.Object {
		return nil, nil
	}
	many := min(len(t.K), len(t.V))
	return t.K[:many], t.V[:many]
}

// placeFor is where a new name stands. It asks one name after the other, as they need not rise.
func placeFor(names []string, name string) int {
	for i, other := range names {
		if other > name {
			return i
		}
	}
	return len(names)
}

// with is a new list: l with others in place of what stands from one place to ahead of another.
func with[T any](l []T, from, to int, others ...T) []T {
	behind := from + len(others)
	out := make([]T, behind+len(l)-to)
	copy(out, l[:from])
	copy(out[from:], others)
	copy(out[behind:], l[to:])
	return out
}

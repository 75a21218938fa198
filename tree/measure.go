package tree

import (
	"iter"

	"erratum/api"
)

// Weight is what a value weighs.
func Weight(t api.Tree) int {
	weight := 0
	for _, v := range all(t) {
		weight += ownWeight(v)
	}
	return weight
}

// ownWeight is what a value weighs without those in it.
func ownWeight(t api.Tree) int {
	switch t.Kind {
	case api.Number:
		return 1 + len(t.N.M)
	case api.Text, api.Bytes:
		return 1 + len(t.S)
	}
	return 1
}

// Nodes is how many values there are.
func Nodes(t api.Tree) int {
	nodes := 0
	for range all(t) {
		nodes++
	}
	return nodes
}

// Depth is how deep a value is.
func Depth(t api.Tree) int {
	deepest := 0
	for depth := range all(t) {
		deepest = max(deepest, depth)
	}
	return deepest
}

// all goes through a value and all in it, of whatever kind they are, each with how deep it is, and each ahead of those in it: so who stops at one that is too deep has an end, even of one that is within itself. It keeps what is left by a list, not by calling itself, so that no depth is too great for it.
func all(t api.Tree) iter.Seq2[int, api.Tree] {
	return func(yield func(int, api.Tree) bool) {
		if !yield(1, t) {
			return
		}
		left := [][]api.Tree{t.V}
		for len(left) > 0 {
			top := len(left) - 1
			if len(left[top]) == 0 {
				left = left[:top]
				continue
			}
			v := left[top][0]
			left[top] = left[top][1:]
			if !yield(top+2, v) {
				return
			}
			left = append(left, v.V)
		}
	}
}

package ops_test

import (
	"maps"
	"slices"
	"strconv"

	"erratum/api"
	"erratum/num"
)

// spot is a place that holds a value, which operations of the tests' own turn where it is.
type spot struct {
	leaf  api.Tree // of a value that is neither an array nor an object
	kind  int
	items []*spot
	names map[string]*spot
}

// grown is a value as spots, none of which stands twice.
func grown(t api.Tree) *spot {
	s := &spot{leaf: t, kind: t.Kind, names: map[string]*spot{}}
	for i, v := range t.V {
		if t.Kind == api.Object {
			s.names[t.K[i]] = grown(v)
		} else {
			s.items = append(s.items, grown(v))
		}
	}
	return s
}

// value is the value that spots are.
func (s *spot) value() api.Tree {
	t := api.Tree{Kind: s.kind}
	switch s.kind {
	case api.Array:
		for _, v := range s.items {
			t.V = append(t.V, v.value())
		}
		return t
	case api.Object:
		for _, name := range slices.Sorted(maps.Keys(s.names)) {
			t.K = append(t.K, name)
			t.V = append(t.V, s.names[name].value())
		}
		return t
	}
	return s.leaf
}

// item is the number that a token is, or -1.
func item(token string) int {
	n, err := strconv.Atoi(token)
	if err != nil || strconv.Itoa(n) != token || n < 0 || n > 9999 {
		return -1
	}
	return n
}

// to is the spot at a path, or nil.
func (s *spot) to(path []string) *spot {
	if s == nil || len(path) == 0 {
		return s
	}
	if s.kind == api.Object {
		return s.names[path[0]].to(path[1:])
	}
	if at := item(path[0]); at >= 0 && at < len(s.items) {
		return s.items[at].to(path[1:])
	}
	return nil
}

// add puts a spot at a path, and tells whether that goes.
func (s *spot) add(path []string, v *spot) bool {
	if len(path) == 0 {
		*s = *v
		return true
	}
	above, token := s.to(path[:len(path)-1]), path[len(path)-1]
	switch {
	case above == nil:
		return false
	case above.kind == api.Object:
		above.names[token] = v
		return true
	case above.kind != api.Array:
		return false
	}
	at := item(token)
	if token == "-" {
		at = len(above.items)
	}
	if at < 0 || at > len(above.items) {
		return false
	}
	above.items = slices.Insert(above.items, at, v)
	return true
}

// remove takes away what is at a path, and tells whether that goes.
func (s *spot) remove(path []string) bool {
	if len(path) == 0 || s.to(path) == nil {
		return false
	}
	above, token := s.to(path[:len(path)-1]), path[len(path)-1]
	if above.kind == api.Object {
		delete(above.names, token)
	} else {
		above.items = slices.Delete(above.items, item(token), item(token)+1)
	}
	return true
}

// within tells whether one path leads into what is at another one.
func within(path, from []string) bool {
	for i, token := range from {
		if i >= len(path) || path[i] != token {
			return false
		}
	}
	return len(path) > len(from)
}

// equal tells whether two values that may be are the same.
func equal(a, b api.Tree) bool {
	return a.Kind == b.Kind && a.B == b.B && a.S == b.S && num.Cmp(a.N, b.N) == 0 && slices.Equal(a.K, b.K) && slices.EqualFunc(a.V, b.V, equal)
}

// model is what One must answer of a value that may be and an operation.
func model(t api.Tree, o api.Op) (api.Tree, bool) {
	s := grown(t)
	goes := false
	switch o.Op {
	case api.Add:
		goes = s.add(o.Path, grown(o.Value))
	case api.Remove:
		goes = s.remove(o.Path)
	case api.Replace:
		if there := s.to(o.Path); there != nil {
			*there, goes = *grown(o.Value), true
		}
	case api.Move:
		there := s.to(o.From)
		switch {
		case there == nil || within(o.Path, o.From):
		case slices.Equal(o.Path, o.From):
			goes = true
		default:
			taken := grown(there.value())
			goes = s.remove(o.From) && s.add(o.Path, taken)
		}
	case api.Copy:
		if there := s.to(o.From); there != nil {
			goes = s.add(o.Path, grown(there.value()))
		}
	case api.Test:
		there := s.to(o.Path)
		goes = there != nil && equal(there.value(), o.Value)
	}
	if !goes {
		return api.Tree{}, false
	}
	return s.value(), true
}

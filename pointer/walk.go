package pointer

import (
	"slices"

	"erratum/api"
)

// Get is the value at a path.
func Get(t api.Tree, path []string) (api.Tree, bool) {
	for _, token := range path {
		at, ok := place(t, token)
		if !ok {
			return api.Tree{}, false
		}
		t = t.V[at]
	}
	return t, true
}

// place is which of the values in one a token leads to.
func place(t api.Tree, token string) (int, bool) {
	switch t.Kind {
	case api.Object:
		at := slices.Index(t.K, token)
		return at, at >= 0 && at < len(t.V)
	case api.Array:
		return Index(token, len(t.V)-1)
	}
	return 0, false
}

// Put is a tree with another value at a path. It goes by halves of the path, so that it calls itself a few times only, however long a path is.
func Put(t api.Tree, path []string, v api.Tree) (api.Tree, bool) {
	switch len(path) {
	case 0:
		return v, true
	case 1:
		return putIn(t, path[0], v)
	}
	near, far := path[:len(path)/2], path[len(path)/2:]
	within, ok := Get(t, near)
	if !ok {
		return api.Tree{}, false
	}
	within, ok = Put(within, far, v)
	if !ok {
		return api.Tree{}, false
	}
	return Put(t, near, within)
}

// putIn is a tree with another value where one token leads.
func putIn(t api.Tree, token string, v api.Tree) (api.Tree, bool) {
	at, ok := place(t, token)
	if !ok {
		return api.Tree{}, false
	}
	values := make([]api.Tree, len(t.V))
	copy(values, t.V)
	values[at] = v
	t.V = values
	return t, true
}

package ops

import (
	"slices"

	"erratum/api"
	"erratum/pointer"
	"erratum/tree"
)

// last is the token of an Add behind all items.
const last = "-"

// One is what comes of an operation.
func One(t api.Tree, o api.Op) (behind api.Tree, ok bool) {
	defer func() {
		if recover() != nil {
			behind, ok = api.Tree{}, false
		}
	}()
	return done(t, o), true
}

// must throws Failed, if what an operation asks for is not so.
func must(so bool) {
	if !so {
		panic(api.Failed)
	}
}

// done is the value behind an operation. It throws Failed.
func done(t api.Tree, o api.Op) api.Tree {
	onto, v := t, o.Value // what is put, and where
	switch o.Op {
	case api.Move:
		if pointer.Starts(o.From, o.Path) {
			return stayed(t, o)
		}
		onto = removed(t, o.From)
		fallthrough
	case api.Copy:
		v = found(t, o.From)
		fallthrough
	case api.Add:
		return added(onto, o.Path, v)
	case api.Remove:
		return removed(t, o.Path)
	case api.Replace:
		return replaced(t, o.Path, v)
	case api.Test:
		must(tree.Same(found(t, o.Path), v))
		return t
	}
	panic(api.Failed)
}

// stayed is the value behind a Move to where it is from, or into that. It throws Failed.
func stayed(t api.Tree, o api.Op) api.Tree {
	must(len(o.Path) == len(o.From))
	found(t, o.From)
	return t
}

// found is the value at a path. It throws Failed.
func found(t api.Tree, path []string) api.Tree {
	v, ok := pointer.Get(t, path)
	must(ok)
	return v
}

// replaced is a value with another one in place of what is there. It throws Failed.
func replaced(t api.Tree, path []string, v api.Tree) api.Tree {
	behind, ok := pointer.Put(t, path, v)
	must(ok)
	return behind
}

// added is a value with another one put at a path. It throws Failed.
func added(t api.Tree, path []string, v api.Tree) api.Tree {
	if len(path) == 0 {
		return v
	}
	above, token := parted(path)
	return replaced(t, above, with(found(t, above), token, v))
}

// removed is a value without the one at a path. It throws Failed.
func removed(t api.Tree, path []string) api.Tree {
	must(len(path) > 0)
	above, token := parted(path)
	return replaced(t, above, without(found(t, above), token))
}

// parted is the path to a parent, and the token from there.
func parted(path []string) ([]string, string) {
	at := len(path) - 1
	return path[:at], path[at]
}

// with is a parent with a value put at a token. It throws Failed.
func with(parent api.Tree, token string, v api.Tree) api.Tree {
	switch parent.Kind {
	case api.Object:
		return tree.Set(parent, token, v)
	case api.Array:
		at := len(parent.V)
		if token != last {
			at = item(token, at)
		}
		return list(parent.V[:at], []api.Tree{v}, parent.V[at:])
	}
	panic(api.Failed)
}

// without is a parent without the value at a token. It throws Failed.
func without(parent api.Tree, token string) api.Tree {
	switch parent.Kind {
	case api.Object:
		_, ok := tree.Member(parent, token)
		must(ok)
		return tree.Unset(parent, token)
	case api.Array:
		at := item(token, len(parent.V)-1)
		return list(parent.V[:at], parent.V[at+1:])
	}
	panic(api.Failed)
}

// item is the number that a token is, at most so great. It throws Failed.
func item(token string, most int) int {
	at, ok := pointer.Index(token, most)
	must(ok)
	return at
}

// list is an array of several lists' items.
func list(pieces ...[]api.Tree) api.Tree {
	return api.Tree{Kind: api.Array, V: slices.Concat(pieces...)}
}

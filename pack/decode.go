package pack

import (
	"erratum/api"
	"erratum/mhead"
	"erratum/order"
	"erratum/utf"
)

// Decode is the value that bytes are.
func Decode(b []byte) (t api.Tree, e api.Errno) {
	defer func() {
		if thrown := recover(); thrown != nil {
			t, e = api.Tree{}, thrown.(api.Errno)
		}
	}()
	if len(b) > api.MaxFile {
		panic(api.Limit)
	}
	r := reader{left: b}
	t = r.value()
	if len(r.left) > 0 {
		panic(api.Malformed)
	}
	return t, api.OK
}

// reader is what is left of bytes that are read from the front on, how many arrays and objects that has ahead of it that have not ended, and how many values have begun.
type reader struct {
	left  []byte
	depth int
	nodes int
}

// head is one of MessagePack.
type head struct {
	kind int
	n    uint64
}

// head takes a head. It throws what is wrong with it.
func (r *reader) head() head {
	kind, n, next, e := mhead.Get(r.left, 0)
	if e != api.OK {
		panic(e)
	}
	r.left = r.left[next:]
	return head{kind: kind, n: n}
}

// value takes a value. It throws what is wrong. Its head is read ahead of the limits: what is wrong with that one is told first.
func (r *reader) value() api.Tree {
	h := r.head()
	if r.nodes == api.MaxNodes || r.depth == api.MaxDepth {
		panic(api.Limit)
	}
	r.nodes++
	r.depth++
	t := r.behind(h)
	r.depth--
	return t
}

// behind takes what is left of a value behind its head. It throws what is wrong.
func (r *reader) behind(h head) api.Tree {
	switch h.kind {
	case mhead.Nil:
		return api.Tree{Kind: api.Null}
	case mhead.False:
		return api.Tree{Kind: api.Bool}
	case mhead.True:
		return api.Tree{Kind: api.Bool, B: true}
	case mhead.Uint:
		return whole(false, h.n)
	case mhead.Int:
		return signed(h.n)
	case mhead.Half:
		return float(halfWidth, h.n)
	case mhead.Float:
		return float(floatWidth, h.n)
	case mhead.Text:
		return api.Tree{Kind: api.Text, S: r.text(h)}
	case mhead.Bytes:
		return api.Tree{Kind: api.Bytes, S: r.bytes(h)}
	case mhead.Array:
		return r.array(h)
	case mhead.Map:
		return r.object(h)
	}
	panic(api.Unsupported) // an Ext
}

// refuseMore throws Limit, if a head has a number above the greatest.
func refuseMore(h head, greatest uint64) {
	if h.n > greatest {
		panic(api.Limit)
	}
}

// bytes takes as many bytes as a head tells. It throws what is wrong.
func (r *reader) bytes(h head) string {
	refuseMore(h, api.MaxText)
	if h.n > uint64(len(r.left)) {
		panic(api.Malformed)
	}
	taken := string(r.left[:h.n])
	r.left = r.left[h.n:]
	return taken
}

// text takes the bytes of a text or of a name, behind its head. It throws what is wrong.
func (r *reader) text(h head) string {
	taken := r.bytes(h)
	if !utf.Valid(taken) {
		panic(api.Malformed)
	}
	return taken
}

// array takes items, behind their array's head. It throws what is wrong.
func (r *reader) array(h head) api.Tree {
	refuseMore(h, api.MaxItems)
	items := make([]api.Tree, h.n)
	for i := range items {
		items[i] = r.value()
	}
	return api.Tree{Kind: api.Array, V: items}
}

// object takes members, behind their object's head. It throws what is wrong.
func (r *reader) object(h head) api.Tree {
	refuseMore(h, api.MaxItems)
	names, values := make([]string, h.n), make([]api.Tree, h.n)
	for i := range names {
		names[i] = r.name()
		values[i] = r.value()
	}
	t, _, ok := order.Object(names, values)
	if !ok {
		panic(api.Malformed)
	}
	return t
}

// name takes a member's name. It throws what is wrong.
func (r *reader) name() string {
	h := r.head()
	if h.kind != mhead.Text {
		panic(api.Unsupported)
	}
	return r.text(h)
}

package pack_test

import (
	"encoding/binary"
	"math"
	"math/big"
	"slices"
	"testing"
	"unicode/utf8"

	"erratum/api"
	"erratum/num"
	"erratum/pack"
	"erratum/tree"
)

// begun is what begins with a first byte: of a number or a float its value is what stands in the size bytes behind it, or is many where there are none; of the others that is how many there are.
type begun struct {
	kind string
	size int
	many uint64
}

// begunOf is the table of first bytes, row by row.
func begunOf(first byte) begun {
	for _, kind := range []string{"uint", "object", "array", "text", "bytes"} {
		for _, f := range forms(kind) {
			if f.size == 0 && first >= f.first && uint64(first-f.first) <= f.most {
				return begun{kind, 0, uint64(first - f.first)}
			} else if f.size > 0 && first == f.first {
				return begun{kind, f.size, 0}
			}
		}
	}
	switch {
	case first == 0xc0:
		return begun{"null", 0, 0}
	case first == 0xc2 || first == 0xc3:
		return begun{"truth", 0, uint64(first - 0xc2)}
	case first >= 0xc7 && first <= 0xc9:
		return begun{"ext", 1 << (first - 0xc7), 0}
	case first == 0xca || first == 0xcb:
		return begun{"float", 4 << (first - 0xca), 0}
	case first >= 0xd0 && first <= 0xd3:
		return begun{"int", 1 << (first - 0xd0), 0}
	case first >= 0xd4 && first <= 0xd8:
		return begun{"ext", 0, 1 << (first - 0xd4)}
	case first >= 0xe0:
		return begun{"int", 0, uint64(int64(first) - 256)}
	}
	return begun{"none", 0, 0}
}

// headAt is what begins at a place, with its number in many, and the place behind its head.
func headAt(b []byte, at int) (h begun, next int, e api.Errno) {
	if at == len(b) {
		return h, at, api.Malformed
	}
	h = begunOf(b[at])
	next = at + 1 + h.size
	if h.kind == "ext" {
		next++
	}
	switch {
	case h.kind == "none":
		return h, at, api.Unsupported
	case next > len(b):
		return h, at, api.Malformed
	case h.size > 0:
		h.many = binary.BigEndian.Uint64(append(make([]byte, 8-h.size), b[at+1:at+1+h.size]...))
	}
	return h, next, api.OK
}

// textAt is as many bytes as a head tells, at the place behind it, and the place behind them.
func textAt(b []byte, h begun, at int) (s string, next int, e api.Errno) {
	if h.many > api.MaxText {
		return "", at, api.Limit
	}
	next = at + int(h.many)
	if next > len(b) || h.kind == "text" && !utf8.Valid(b[at:next]) {
		return "", at, api.Malformed
	}
	return string(b[at:next]), next, api.OK
}

// level is an array or an object that has not ended.
type level struct {
	object bool
	many   int
	names  []string
	values []api.Tree
}

// value is what it is once it has ended; a name twice is Malformed.
func (l level) value() (api.Tree, api.Errno) {
	if !l.object {
		return list(l.values...), api.OK
	}
	members := map[string]api.Tree{}
	for i, name := range l.names {
		members[name] = l.values[i]
	}
	if len(members) < len(l.names) {
		return api.Tree{}, api.Malformed
	}
	t := api.Tree{Kind: api.Object}
	for name := range members {
		t.K = append(t.K, name)
	}
	slices.Sort(t.K)
	for _, name := range t.K {
		t.V = append(t.V, members[name])
	}
	return t, api.OK
}

// numberFrom is the number that a head is.
func numberFrom(h begun) (api.Tree, api.Errno) {
	x := new(big.Int).SetUint64(h.many)
	switch {
	case h.kind == "float":
		f := math.Float64frombits(h.many)
		if h.size == 4 {
			f = float64(math.Float32frombits(uint32(h.many)))
		}
		if f-f != 0 {
			return api.Tree{}, api.Unsupported
		}
		return api.Tree{Kind: api.Number, N: floatNum(f)}, api.OK
	case h.kind == "int" && h.size == 0:
		x.SetInt64(int64(h.many))
	case h.kind == "int" && x.Bit(8*h.size-1) == 1:
		x.Sub(x, power(2, 8*h.size))
	}
	n, _ := num.Make(x.Sign() < 0, limbsOf(x), 0)
	return api.Tree{Kind: api.Number, N: n}, api.OK
}

// simpleOf is a value that is neither an array nor an object, of its head and the place behind that; and the place behind it.
func simpleOf(b []byte, h begun, at int) (t api.Tree, next int, e api.Errno) {
	switch h.kind {
	case "null":
		return null(), at, api.OK
	case "truth":
		return truth(h.many == 1), at, api.OK
	case "ext":
		return t, at, api.Unsupported
	case "text", "bytes":
		s, next, e := textAt(b, h, at)
		return api.Tree{Kind: map[string]int{"text": api.Text, "bytes": api.Bytes}[h.kind], S: s}, next, e
	}
	t, e = numberFrom(h)
	return t, at, e
}

// decodedOf is what Decode must answer. It goes by a list of what has not ended.
func decodedOf(b []byte) (api.Tree, api.Errno) {
	if len(b) > api.MaxFile {
		return api.Tree{}, api.Limit
	}
	var levels []level
	var last api.Tree // the value that has ended, if one has
	for at, nodes := 0, 0; ; {
		top := len(levels) - 1
		switch {
		case last.Kind != 0 && top < 0 && at < len(b):
			return api.Tree{}, api.Malformed
		case last.Kind != 0 && top < 0:
			return last, api.OK
		case last.Kind != 0:
			levels[top].values = append(levels[top].values, last)
			last = api.Tree{}
		}
		if top >= 0 && len(levels[top].values) == levels[top].many {
			var e api.Errno
			if last, e = levels[top].value(); e != api.OK {
				return api.Tree{}, e
			}
			levels = levels[:top]
			continue
		}
		h, next, e := headAt(b, at)
		if e != api.OK {
			return api.Tree{}, e
		}
		switch {
		case top >= 0 && levels[top].object && len(levels[top].names) == len(levels[top].values):
			var name string
			if h.kind != "text" {
				return api.Tree{}, api.Unsupported
			}
			name, next, e = textAt(b, h, next)
			levels[top].names = append(levels[top].names, name)
		case nodes == api.MaxNodes || len(levels) == api.MaxDepth:
			e = api.Limit
		case h.kind == "array" || h.kind == "object":
			nodes++
			if h.many > api.MaxItems {
				e = api.Limit
			}
			levels = append(levels, level{object: h.kind == "object", many: int(h.many)})
		default:
			nodes++
			last, next, e = simpleOf(b, h, next)
		}
		if e != api.OK {
			return api.Tree{}, e
		}
		at = next
	}
}

// hold holds Decode against the other reader, and answers its error.
func hold(t *testing.T, b string) api.Errno {
	t.Helper()
	want, wantE := decodedOf([]byte(b))
	if got, e := pack.Decode([]byte(b)); e != wantE || !exact(got, want) {
		t.Fatalf("Decode of %s: %v, %d, not %v, %d", short(b), got, e, want, wantE)
	}
	return wantE
}

// holdDecode holds Decode against what it must answer: the value in every field.
func holdDecode(t *testing.T, b string, want api.Tree, wantE api.Errno) {
	t.Helper()
	got, e := pack.Decode([]byte(b))
	if e != wantE || !exact(got, want) {
		t.Errorf("Decode of %s: %v, %d, not %v, %d", short(b), got, e, want, wantE)
	}
	if e == api.OK && !tree.Check(got) {
		t.Errorf("Decode of %s: what may not be", short(b))
	}
	if told, toldE := decodedOf([]byte(b)); toldE != wantE || !exact(told, want) {
		t.Errorf("another reader of %s: %v, %d", short(b), told, toldE)
	}
}

// refuse holds Decode against an error.
func refuse(t *testing.T, b string, e api.Errno) {
	t.Helper()
	holdDecode(t, b, api.Tree{}, e)
}

package cbor

import (
	"slices"

	"erratum/api"
	"erratum/chead"
	"erratum/ieee"
	"erratum/num"
	"erratum/order"
	"erratum/utf"
)

// First bytes that stand for more than their major type.
const (
	firstNatural = majorTag<<infoBits | tagNatural
	firstBelow   = majorTag<<infoBits | tagBelow
	firstBreak   = majorSimple<<infoBits | chead.Open
)

const (
	greatestShort = 31     // of the simple values that have no byte of their own
	greatestTens  = 100000 // either way, of a decimal
)

// Decode is the value that bytes are.
func Decode(b []byte) (t api.Tree, e api.Errno) {
	defer func() {
		if thrown := recover(); thrown != nil {
			t, e = api.Tree{}, thrown.(api.Errno)
		}
	}()
	if len(b) > api.MaxFile {
		panic(api.Limit)
	}
	r := reader{left: b}
	t = r.value()
	if len(r.left) > 0 {
		panic(api.Malformed)
	}
	return t, api.OK
}

// reader is what is left of bytes that are read from the front on, how many arrays and objects that has ahead of it that have not ended, and how many values have begun.
type reader struct {
	left  []byte
	depth int
	nodes int
}

// head is one of CBOR.
type head struct {
	major int
	info  int
	n     uint64
}

// open tells whether a head is without a number.
func (h head) open() bool { return h.info == chead.Open }

// first is the byte that is next. It throws Malformed, if there is none.
func (r *reader) first() byte {
	if len(r.left) == 0 {
		panic(api.Malformed)
	}
	return r.left[0]
}

// head takes a head. It throws Malformed.
func (r *reader) head() head {
	major, info, n, next, e := chead.Get(r.left, 0)
	if e != api.OK {
		panic(e)
	}
	r.left = r.left[next:]
	return head{major: major, info: info, n: n}
}

// ends takes a break, if one is next. It throws Malformed, if nothing is.
func (r *reader) ends() bool {
	if r.first() != firstBreak {
		return false
	}
	r.left = r.left[1:]
	return true
}

// value takes a value. It throws what is wrong.
func (r *reader) value() api.Tree {
	if r.first() == firstBreak {
		panic(api.Malformed)
	}
	if r.nodes == api.MaxNodes || r.depth == api.MaxDepth {
		panic(api.Limit)
	}
	r.nodes++
	r.depth++
	t := r.behind(r.head())
	r.depth--
	return t
}

// behind takes what is left of a value behind its head. It throws what is wrong.
func (r *reader) behind(h head) api.Tree {
	switch h.major {
	case majorBytes:
		return api.Tree{Kind: api.Bytes, S: r.text(h)}
	case majorText:
		return api.Tree{Kind: api.Text, S: r.text(h)}
	case majorArray:
		return r.array(h)
	case majorObject:
		return r.object(h)
	case majorSimple:
		return simple(h)
	}
	if h.open() {
		panic(api.Malformed)
	}
	if h.major == majorTag {
		return r.tagged(h.n)
	}
	return number(wholeOf(h), 0)
}

// refuseMore throws Limit, if a head has a number above the greatest; that of an open one is 0.
func refuseMore(h head, greatest uint64) {
	if h.n > greatest {
		panic(api.Limit)
	}
}

// text takes the bytes of a text, of a name or of bytes, behind their head. It throws what is wrong.
func (r *reader) text(h head) string {
	if h.open() {
		return r.parts(h.major)
	}
	refuseMore(h, api.MaxText)
	return r.piece(h)
}

// parts takes the parts of an open text or of open bytes. It throws what is wrong.
func (r *reader) parts(major int) string {
	var all []byte
	for !r.ends() {
		h := r.head()
		if h.major != major || h.open() {
			panic(api.Malformed)
		}
		all = append(all, r.piece(h)...)
		if len(all) > api.MaxText {
			panic(api.Limit)
		}
	}
	return string(all)
}

// piece takes as many bytes as a head tells, of a text UTF-8. It throws Malformed.
func (r *reader) piece(h head) string {
	if h.n > uint64(len(r.left)) {
		panic(api.Malformed)
	}
	piece := string(r.left[:h.n])
	if h.major == majorText && !utf.Valid(piece) {
		panic(api.Malformed)
	}
	r.left = r.left[h.n:]
	return piece
}

// array takes items, behind their array's head. It throws what is wrong.
func (r *reader) array(h head) api.Tree {
	refuseMore(h, api.MaxItems)
	var items []api.Tree
	for r.more(h, len(items)) {
		items = append(items, r.value())
	}
	return api.Tree{Kind: api.Array, V: items}
}

// object takes members, behind their object's head. It throws what is wrong.
func (r *reader) object(h head) api.Tree {
	refuseMore(h, api.MaxItems)
	var names []string
	var values []api.Tree
	for r.more(h, len(values)) {
		names = append(names, r.name())
		values = append(values, r.value())
	}
	t, _, ok := order.Object(names, values)
	if !ok {
		panic(api.Malformed)
	}
	return t
}

// more tells whether an array or an object with that head has more than what is taken of it; of an open one it takes the break. It throws Malformed, and Limit.
func (r *reader) more(h head, taken int) bool {
	if !h.open() {
		return uint64(taken) < h.n
	}
	if r.ends() {
		return false
	}
	if taken == api.MaxItems {
		panic(api.Limit)
	}
	return true
}

// name takes a member's name. It throws what is wrong.
func (r *reader) name() string {
	if r.first()>>infoBits != majorText {
		panic(api.Unsupported)
	}
	return r.text(r.head())
}

// tagged takes what stands behind a tag, and answers what both are. It throws what is wrong.
func (r *reader) tagged(tag uint64) api.Tree {
	switch tag {
	case tagNatural, tagBelow:
		return number(r.long(tag), 0)
	case tagDecimal:
		return r.decimal()
	}
	panic(api.Unsupported)
}

// part takes the head of what a number's tag stands ahead of, or of a part of that: of one of these major types, and not open. It throws Unsupported by the first byte alone, whether or not that one begins a head, and Malformed.
func (r *reader) part(majors ...byte) head {
	first := r.first()
	if !slices.Contains(majors, first>>infoBits) || first&(1<<infoBits-1) == chead.Open {
		panic(api.Unsupported)
	}
	return r.head()
}

// long takes the bytes of a whole number, behind its tag. It throws what is wrong.
func (r *reader) long(tag uint64) integer {
	return integer{below: tag == tagBelow, told: naturalOf(r.text(r.part(majorBytes)))}
}

// decimal takes the array of a decimal, behind its tag. It throws what is wrong.
func (r *reader) decimal() api.Tree {
	if r.part(majorArray).n != 2 {
		panic(api.Unsupported)
	}
	tens := tensOf(r.part(majorNatural, majorBelow))
	return number(r.digits(), tens)
}

// digits takes the second part of a decimal. It throws what is wrong.
func (r *reader) digits() integer {
	switch r.first() {
	case firstNatural, firstBelow:
		return r.long(r.head().n)
	}
	return wholeOf(r.part(majorNatural, majorBelow))
}

// wholeOf is the whole number that a head is.
func wholeOf(h head) integer {
	return integer{below: h.major == majorBelow, told: []uint32{uint32(h.n), uint32(h.n >> limbBits)}}
}

// tensOf is how many tens a head tells. What is beyond greatestTens is no more than just beyond it: no number but 0 has room for so many, and an int may have none for more.
func tensOf(h head) int {
	tens := int(min(h.n, greatestTens+1))
	if h.major == majorBelow {
		return -1 - tens
	}
	return tens
}

// number is a whole number with so many tens behind it. It throws Limit.
func number(i integer, tens int) api.Tree {
	n, ok := num.Make(i.below, i.size(), tens)
	if !ok {
		panic(api.Limit)
	}
	return api.Tree{Kind: api.Number, N: n}
}

// simple is what a simple value or a float is. It throws what is wrong.
func simple(h head) api.Tree {
	switch {
	case h.info == infoFalse:
		return api.Tree{Kind: api.Bool}
	case h.info == infoTrue:
		return api.Tree{Kind: api.Bool, B: true}
	case h.info == infoNull:
		return api.Tree{Kind: api.Null}
	case h.info == infoByte && h.n <= greatestShort:
		panic(api.Malformed)
	case h.info < infoFloat:
		panic(api.Unsupported)
	}
	n, ok := ieee.Exact(leastWidth<<(h.info-infoFloat), h.n)
	if !ok {
		panic(api.Unsupported)
	}
	return api.Tree{Kind: api.Number, N: n}
}

package json

import (
	"strings"

	"erratum/api"
	"erratum/jstr"
	"erratum/num"
	"erratum/order"
)

// What may stand around each sign and value, and what a number is read as far as.
const (
	blanks      = "\t\n\r "
	numberSigns = "0123456789+-.eE"
)

// Decode is the value that a text is.
func Decode(s string) (t api.Tree, e api.Errno) {
	defer func() {
		if thrown := recover(); thrown != nil {
			t, e = api.Tree{}, thrown.(api.Errno)
		}
	}()
	if len(s) > api.MaxFile {
		panic(api.Limit)
	}
	r := reader{left: s, depth: 1, nodes: 1}
	t = r.value()
	r.skipBlanks()
	if r.left != "" {
		panic(api.Malformed)
	}
	return t, api.OK
}

// reader is what is left of a text that is read from the front on, how deep the value lies that is read, and what number it has.
type reader struct {
	left  string
	depth int
	nodes int
}

// skipBlanks takes all blanks that are next.
func (r *reader) skipBlanks() {
	r.left = strings.TrimLeft(r.left, blanks)
}

// next is the byte that is next behind blanks, which it takes; at the end it is 0, which is as wrong as the end wherever it stands.
func (r *reader) next() byte {
	r.skipBlanks()
	if r.left == "" {
		return 0
	}
	return r.left[0]
}

// take takes a sign, if it is next behind blanks.
func (r *reader) take(sign byte) bool {
	if r.next() != sign {
		return false
	}
	r.left = r.left[1:]
	return true
}

// must takes a sign that has to be next behind blanks. It throws Malformed.
func (r *reader) must(sign byte) {
	if !r.take(sign) {
		panic(api.Malformed)
	}
}

// value takes a value. It throws what is wrong.
func (r *reader) value() api.Tree {
	switch r.next() {
	case 'n':
		return r.word("null", api.Tree{Kind: api.Null})
	case 't':
		return r.word("true", api.Tree{Kind: api.Bool, B: true})
	case 'f':
		return r.word("false", api.Tree{Kind: api.Bool})
	case '-', '0', '1', '2', '3', '4', '5', '6', '7', '8', '9':
		return api.Tree{Kind: api.Number, N: r.number()}
	case '"':
		return api.Tree{Kind: api.Text, S: r.text()}
	case '[':
		return r.array()
	case '{':
		return r.object()
	}
	panic(api.Malformed)
}

// word takes a word, and answers what it stands for. It throws Malformed.
func (r *reader) word(word string, t api.Tree) api.Tree {
	left, ok := strings.CutPrefix(r.left, word)
	if !ok {
		panic(api.Malformed)
	}
	r.left = left
	return t
}

// number takes a number. It throws what num says.
func (r *reader) number() api.Num {
	behind := strings.TrimLeft(r.left, numberSigns)
	n, e := num.Parse(r.left[:len(r.left)-len(behind)])
	if e != api.OK {
		panic(e)
	}
	r.left = behind
	return n
}

// text takes a text in quote signs. It throws what jstr says, and Limit.
func (r *reader) text() string {
	text, behind, e := jstr.Unquote(r.left, 0)
	if e != api.OK {
		panic(e)
	}
	if len(text) > api.MaxText {
		panic(api.Limit)
	}
	r.left = r.left[behind:]
	return text
}

// array takes an array. It throws what is wrong.
func (r *reader) array() api.Tree {
	var items []api.Tree
	r.parts('[', ']', func() {
		items = append(items, r.value())
	})
	return api.Tree{Kind: api.Array, V: items}
}

// object takes an object. It throws what is wrong.
func (r *reader) object() api.Tree {
	var names []string
	var values []api.Tree
	r.parts('{', '}', func() {
		r.skipBlanks()
		names = append(names, r.text())
		r.must(':')
		values = append(values, r.value())
	})
	t, _, ok := order.Object(names, values)
	if !ok {
		panic(api.Malformed)
	}
	return t
}

// parts takes all that stands between two signs, with commas between; part takes one, an item or a member. It throws what is wrong.
func (r *reader) parts(begin, end byte, part func()) {
	r.must(begin)
	r.depth++
	for many := 0; !r.take(end); many++ {
		if many > 0 {
			r.must(',')
		}
		r.enter(many)
		part()
	}
	r.depth--
}

// enter counts a value ahead of which there are so many in what it stands in. It throws Limit, if there is no room for it: whatever comes then, even the end, is not looked at.
func (r *reader) enter(ahead int) {
	r.nodes++
	if ahead >= api.MaxItems || r.depth > api.MaxDepth || r.nodes > api.MaxNodes {
		panic(api.Limit)
	}
}

package pack_test

import (
	"encoding/binary"
	"encoding/hex"
	"fmt"
	"math"
	"math/big"
	"slices"
	"strconv"
	"strings"

	"erratum/api"
	"erratum/num"
)

func null() api.Tree { return api.Tree{Kind: api.Null} }

func truth(b bool) api.Tree { return api.Tree{Kind: api.Bool, B: b} }

// parsed is the number that a text is.
func parsed(s string) api.Num {
	n, e := num.Parse(s)
	if e != api.OK {
		panic(s)
	}
	return n
}

func number(s string) api.Tree { return api.Tree{Kind: api.Number, N: parsed(s)} }

func text(s string) api.Tree { return api.Tree{Kind: api.Text, S: s} }

func blob(s string) api.Tree { return api.Tree{Kind: api.Bytes, S: s} }

func list(l ...api.Tree) api.Tree { return api.Tree{Kind: api.Array, V: l} }

// one is an object of one member.
func one(name string, v api.Tree) api.Tree {
	return api.Tree{Kind: api.Object, K: []string{name}, V: []api.Tree{v}}
}

// named is an object of these names, in the order they are given, each with its place as its value.
func named(names ...string) api.Tree {
	t := api.Tree{Kind: api.Object, K: names}
	for i := range names {
		t.V = append(t.V, number(strconv.Itoa(i)))
	}
	return t
}

// nest is a value within so many others, each made of the one in it.
func nest(many int, v api.Tree, around func(api.Tree) api.Tree) api.Tree {
	for range many {
		v = around(v)
	}
	return v
}

// inArray and inObject are what nest takes.
func inArray(v api.Tree) api.Tree { return list(v) }

func inObject(v api.Tree) api.Tree { return one("", v) }

// many is a list of so many of one value.
func many(n int, v api.Tree) []api.Tree { return slices.Repeat([]api.Tree{v}, n) }

// manyNames is so many names that rise.
func manyNames(n int) (names []string) {
	for i := range n {
		names = append(names, strconv.Itoa(100000+i))
	}
	return names
}

// crowd is an array that is, with all in it, so many values.
func crowd(nodes int) api.Tree {
	t := list()
	for nodes--; nodes > 0; {
		most := min(nodes, 250)
		t.V = append(t.V, list(many(most-1, null())...))
		nodes -= most
	}
	return t
}

// sameNum tells whether all fields of two numbers are the same.
func sameNum(a, b api.Num) bool {
	return a.Neg == b.Neg && a.E == b.E && slices.Equal(a.M, b.M)
}

// exact tells whether all fields of two are the same.
func exact(a, b api.Tree) bool {
	return a.Kind == b.Kind && a.B == b.B && a.S == b.S && sameNum(a.N, b.N) && slices.Equal(a.K, b.K) && slices.EqualFunc(a.V, b.V, exact)
}

// bytesOf are bytes as digits of sixteen tell them, with blanks between.
func bytesOf(s string) string {
	b, err := hex.DecodeString(strings.ReplaceAll(s, " ", ""))
	if err != nil {
		panic(s)
	}
	return string(b)
}

// short is bytes as a fault tells them.
func short(b string) string {
	if len(b) <= 80 {
		return fmt.Sprintf("%x", b)
	}
	return fmt.Sprintf("%x.. (%d bytes) ..%x", b[:40], len(b), b[len(b)-40:])
}

// wide is a first byte, and a number behind it in so many bytes.
func wide(first byte, size int, n uint64) string {
	return string([]byte{first}) + string(binary.BigEndian.AppendUint64(nil, n)[8-size:])
}

// form is a way to write heads of one kind: the first byte, to which the number is added where size is 0; how many bytes the number has; the greatest there is.
type form struct {
	first byte
	size  int
	most  uint64
}

// forms of a kind, the shortest first.
func forms(kind string) []form {
	switch kind {
	case "text":
		return []form{{0xa0, 0, 31}, {0xd9, 1, math.MaxUint8}, {0xda, 2, math.MaxUint16}, {0xdb, 4, math.MaxUint32}}
	case "bytes":
		return []form{{0xc4, 1, math.MaxUint8}, {0xc5, 2, math.MaxUint16}, {0xc6, 4, math.MaxUint32}}
	case "array":
		return []form{{0x90, 0, 15}, {0xdc, 2, math.MaxUint16}, {0xdd, 4, math.MaxUint32}}
	case "object":
		return []form{{0x80, 0, 15}, {0xde, 2, math.MaxUint16}, {0xdf, 4, math.MaxUint32}}
	case "uint":
		return []form{{0x00, 0, 127}, {0xcc, 1, math.MaxUint8}, {0xcd, 2, math.MaxUint16}, {0xce, 4, math.MaxUint32}, {0xcf, 8, math.MaxUint64}}
	}
	panic(kind)
}

// headsOf are all heads of a kind with that number, the shortest first.
func headsOf(kind string, n uint64) (l []string) {
	for _, f := range forms(kind) {
		switch {
		case n > f.most:
		case f.size == 0:
			l = append(l, string([]byte{f.first + byte(n)}))
		default:
			l = append(l, wide(f.first, f.size, n))
		}
	}
	return l
}

// headOf is the shortest of a kind's heads with that number.
func headOf(kind string, n int) string { return headsOf(kind, uint64(n))[0] }

// belows are all heads of a number below 0, the shortest first.
func belows(n int64) (l []string) {
	if n >= -32 {
		l = append(l, string([]byte{byte(n)}))
	}
	for i, size := range []int{1, 2, 4, 8} {
		if n >= int64(-1)<<(8*size-1) {
			l = append(l, wide(0xd0+byte(i), size, uint64(n)))
		}
	}
	return l
}

// fractionOf is what a number is.
func fractionOf(n api.Num) *big.Rat {
	m := new(big.Int)
	for i := len(n.M) - 1; i >= 0; i-- {
		m.Add(m.Lsh(m, 32), big.NewInt(int64(n.M[i])))
	}
	if n.Neg {
		m.Neg(m)
	}
	tens := new(big.Rat).SetInt(power(10, max(n.E, -n.E)))
	if n.E < 0 {
		tens.Inv(tens)
	}
	return tens.Mul(tens, new(big.Rat).SetInt(m))
}

// power is base to the n.
func power(base, n int) *big.Int {
	return new(big.Int).Exp(big.NewInt(int64(base)), big.NewInt(int64(n)), nil)
}

// limbsOf are a natural's limbs.
func limbsOf(x *big.Int) (m []uint32) {
	for x := new(big.Int).Abs(x); x.Sign() > 0; x.Rsh(x, 32) {
		m = append(m, uint32(new(big.Int).And(x, big.NewInt(math.MaxUint32)).Uint64()))
	}
	return m
}

// numberOf is how a number that may be is written; empty, if there is no way.
func numberOf(n api.Num) string {
	x := fractionOf(n)
	if x.IsInt() && x.Num().IsUint64() {
		return headsOf("uint", x.Num().Uint64())[0]
	}
	if x.IsInt() && x.Num().IsInt64() {
		return belows(x.Num().Int64())[0]
	}
	f, same := x.Float64()
	if !same {
		return ""
	}
	if float64(float32(f)) == f {
		return wide(0xca, 4, uint64(math.Float32bits(float32(f))))
	}
	return wide(0xcb, 8, math.Float64bits(f))
}

// floatNum is the number that a float is, which is neither an infinity nor none.
func floatNum(f float64) api.Num {
	x := new(big.Rat).SetFloat64(f)
	twos := x.Denom().BitLen() - 1
	n, ok := num.Make(f < 0, limbsOf(new(big.Int).Mul(x.Num(), power(5, twos))), -twos)
	if !ok {
		panic(f)
	}
	return n
}

// encodedOf is what Encode must answer of a value that may be, and all of whose numbers there are, however long it is.
func encodedOf(t api.Tree) string {
	switch t.Kind {
	case api.Null:
		return "\xc0"
	case api.Bool:
		if t.B {
			return "\xc3"
		}
		return "\xc2"
	case api.Number:
		return numberOf(t.N)
	case api.Text:
		return headOf("text", len(t.S)) + t.S
	case api.Bytes:
		return headOf("bytes", len(t.S)) + t.S
	case api.Array:
		var b strings.Builder
		for _, v := range t.V {
			b.WriteString(encodedOf(v))
		}
		return headOf("array", len(t.V)) + b.String()
	}
	var b strings.Builder
	for i, v := range t.V {
		b.WriteString(encodedOf(text(t.K[i])) + encodedOf(v))
	}
	return headOf("object", len(t.V)) + b.String()
}

// unrep tells whether a number in a value is one that there is not.
func unrep(t api.Tree) bool {
	return t.Kind == api.Number && numberOf(t.N) == "" || slices.ContainsFunc(t.V, unrep)
}

package cbor_test

import (
	"encoding/binary"
	"encoding/hex"
	"fmt"
	"math"
	"math/big"
	"slices"
	"strconv"
	"strings"
	"sync"

	"erratum/api"
	"erratum/num"
)

func null() api.Tree { return api.Tree{Kind: api.Null} }

func truth(b bool) api.Tree { return api.Tree{Kind: api.Bool, B: b} }

// parsed is the number that a text is.
func parsed(s string) api.Num {
	n, e := num.Parse(s)
	if e != api.OK {
		panic(s)
	}
	return n
}

func number(s string) api.Tree { return api.Tree{Kind: api.Number, N: parsed(s)} }

func text(s string) api.Tree { return api.Tree{Kind: api.Text, S: s} }

func blob(s string) api.Tree { return api.Tree{Kind: api.Bytes, S: s} }

func list(l ...api.Tree) api.Tree { return api.Tree{Kind: api.Array, V: l} }

// one is an object of one member.
func one(name string, v api.Tree) api.Tree {
	return api.Tree{Kind: api.Object, K: []string{name}, V: []api.Tree{v}}
}

// named is an object of these names, in the order they are given, each with its place as its value.
func named(names ...string) api.Tree {
	t := api.Tree{Kind: api.Object, K: names}
	for i := range names {
		t.V = append(t.V, number(strconv.Itoa(i)))
	}
	return t
}

// nest is a value within so many others, each made of the one in it.
func nest(many int, v api.Tree, around func(api.Tree) api.Tree) api.Tree {
	for range many {
		v = around(v)
	}
	return v
}

// inArray and inObject are what nest takes.
func inArray(v api.Tree) api.Tree { return list(v) }

func inObject(v api.Tree) api.Tree { return one("", v) }

// many is a list of so many of one value.
func many(n int, v api.Tree) []api.Tree { return slices.Repeat([]api.Tree{v}, n) }

// manyNames is so many names that rise.
func manyNames(n int) (names []string) {
	for i := range n {
		names = append(names, strconv.Itoa(100000+i))
	}
	return names
}

// crowd is an array that is, with all in it, so many values.
func crowd(nodes int) api.Tree {
	t := list()
	for nodes--; nodes > 0; {
		most := min(nodes, 250)
		t.V = append(t.V, list(many(most-1, null())...))
		nodes -= most
	}
	return t
}

// sameNum tells whether all fields of two numbers are the same.
func sameNum(a, b api.Num) bool {
	return a.Neg == b.Neg && a.E == b.E && slices.Equal(a.M, b.M)
}

// exact tells whether all fields of two are the same.
func exact(a, b api.Tree) bool {
	return a.Kind == b.Kind && a.B == b.B && a.S == b.S && sameNum(a.N, b.N) && slices.Equal(a.K, b.K) && slices.EqualFunc(a.V, b.V, exact)
}

// bytesOf are bytes as digits of sixteen tell them, with blanks between.
func bytesOf(s string) string {
	b, err := hex.DecodeString(strings.ReplaceAll(s, " ", ""))
	if err != nil {
		panic(s)
	}
	return string(b)
}

// short is bytes as a fault tells them.
func short(b string) string {
	if len(b) <= 80 {
		return fmt.Sprintf("%x", b)
	}
	return fmt.Sprintf("%x.. (%d bytes) ..%x", b[:40], len(b), b[len(b)-40:])
}

// widths are how many bytes a head's number has behind its first one, by infos from 24 on.
var widths = []int{1, 2, 4, 8}

// headOf is a head with that number in as few bytes as can be.
func headOf(major int, n uint64) string {
	whole := binary.BigEndian.AppendUint64(nil, n)
	if n < 24 {
		return string([]byte{byte(major*32) + byte(n)})
	}
	for i, w := range widths {
		if w == 8 || n>>(8*w) == 0 {
			return string([]byte{byte(major*32 + 24 + i)}) + string(whole[8-w:])
		}
	}
	return ""
}

// longHead is a head with that number in so many bytes behind its first one.
func longHead(major, width int, n uint64) string {
	whole := binary.BigEndian.AppendUint64(nil, n)
	return string([]byte{byte(major*32 + 24 + slices.Index(widths, width))}) + string(whole[8-width:])
}

// bigOf is a natural with a sign.
func bigOf(neg bool, m []uint32) *big.Int {
	x := new(big.Int)
	for i := len(m) - 1; i >= 0; i-- {
		x.Add(x.Lsh(x, 32), big.NewInt(int64(m[i])))
	}
	if neg {
		x.Neg(x)
	}
	return x
}

// limbsOf are a natural's limbs.
func limbsOf(x *big.Int) (m []uint32) {
	for x := new(big.Int).Abs(x); x.Sign() > 0; x.Rsh(x, 32) {
		m = append(m, uint32(new(big.Int).And(x, big.NewInt(math.MaxUint32)).Uint64()))
	}
	return m
}

// power is base to the n.
func power(base, n int) *big.Int {
	return new(big.Int).Exp(big.NewInt(int64(base)), big.NewInt(int64(n)), nil)
}

// fractionOf is what a number is.
func fractionOf(n api.Num) *big.Rat {
	x := new(big.Rat).SetInt(bigOf(n.Neg, n.M))
	if n.E < 0 {
		return x.Quo(x, new(big.Rat).SetInt(power(10, -n.E)))
	}
	return x.Mul(x, new(big.Rat).SetInt(power(10, n.E)))
}

// half is the float that 16 bits are.
func half(bits uint16) float64 {
	sign, exponent, fraction := 1-2*float64(bits>>15), int(bits>>10&31), float64(bits&1023)
	switch {
	case exponent == 31 && fraction == 0:
		return math.Inf(int(sign))
	case exponent == 31:
		return math.NaN()
	case exponent == 0:
		return math.Ldexp(sign*fraction, -24)
	}
	return math.Ldexp(sign*(1024+fraction), exponent-25)
}

// halves are the bits of all floats of 16 bits that are not 0.
var halves = sync.OnceValue(func() map[float64]uint16 {
	all := map[float64]uint16{}
	for bits := range 1 << 16 {
		if f := half(uint16(bits)); f != 0 && f-f == 0 {
			all[f] = uint16(bits)
		}
	}
	return all
})

// floatOf is the shortest float that is a number exactly.
func floatOf(x *big.Rat) (string, bool) {
	f, same := x.Float64()
	if !same {
		return "", false
	}
	if bits, ok := halves()[f]; ok {
		return string(binary.BigEndian.AppendUint16([]byte{0xf9}, bits)), true
	}
	if float64(float32(f)) == f {
		return string(binary.BigEndian.AppendUint32([]byte{0xfa}, math.Float32bits(float32(f)))), true
	}
	return string(binary.BigEndian.AppendUint64([]byte{0xfb}, math.Float64bits(f))), true
}

// wholeOf is a whole number, by a head if that has room for it.
func wholeOf(x *big.Int) (b string, inHead bool) {
	below, told := 0, x
	if x.Sign() < 0 {
		below, told = 1, new(big.Int).Not(x)
	}
	if told.IsUint64() {
		return headOf(below, told.Uint64()), true
	}
	return headOf(6, uint64(2+below)) + headOf(2, uint64(len(told.Bytes()))) + string(told.Bytes()), false
}

// numberOf is what Number must answer.
func numberOf(n api.Num) string {
	if !num.Check(n) {
		return "\x00"
	}
	x := fractionOf(n)
	if x.IsInt() {
		if b, ok := wholeOf(x.Num()); ok {
			return b
		}
	}
	if b, ok := floatOf(x); ok {
		return b
	}
	tens, _ := wholeOf(big.NewInt(int64(n.E)))
	digits, _ := wholeOf(bigOf(n.Neg, n.M))
	return "\xc4\x82" + tens + digits
}

// encodedOf is what Encode must answer of a value that may be, however long it is.
func encodedOf(t api.Tree) string {
	switch t.Kind {
	case api.Null:
		return "\xf6"
	case api.Bool:
		if t.B {
			return "\xf5"
		}
		return "\xf4"
	case api.Number:
		return numberOf(t.N)
	case api.Text:
		return headOf(3, uint64(len(t.S))) + t.S
	case api.Bytes:
		return headOf(2, uint64(len(t.S))) + t.S
	case api.Array:
		var b strings.Builder
		for _, v := range t.V {
			b.WriteString(encodedOf(v))
		}
		return headOf(4, uint64(len(t.V))) + b.String()
	}
	var members []string // to be sorted by their names as they are encoded: that is CBOR's order, too
	for i, name := range t.K {
		members = append(members, headOf(3, uint64(len(name)))+name+encodedOf(t.V[i]))
	}
	slices.Sort(members)
	return headOf(5, uint64(len(t.V))) + strings.Join(members, "")
}

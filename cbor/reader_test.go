package cbor_test

import (
	"encoding/binary"
	"math"
	"math/big"
	"slices"
	"testing"
	"unicode/utf8"

	"erratum/api"
	"erratum/cbor"
	"erratum/tree"
)

// level is an array or an object that has not ended.
type level struct {
	object bool
	open   bool
	many   uint64
	names  []string
	values []api.Tree
}

// value is what it is once it has ended; a name twice is Malformed.
func (l level) value() (api.Tree, api.Errno) {
	if !l.object {
		return list(l.values...), api.OK
	}
	members := map[string]api.Tree{}
	for i, name := range l.names {
		members[name] = l.values[i]
	}
	if len(members) < len(l.names) {
		return api.Tree{}, api.Malformed
	}
	t := api.Tree{Kind: api.Object}
	for name := range members {
		t.K = append(t.K, name)
	}
	slices.Sort(t.K)
	for _, name := range t.K {
		t.V = append(t.V, members[name])
	}
	return t, api.OK
}

// headAt is the head at a place, and the place behind it.
func headAt(b []byte, at int) (major, info int, n uint64, next int, e api.Errno) {
	if at == len(b) {
		return 0, 0, 0, at, api.Malformed
	}
	major, info, next = int(b[at])/32, int(b[at])%32, at+1
	switch {
	case info < 24:
		return major, info, uint64(info), next, api.OK
	case info == 31:
		return major, info, 0, next, api.OK
	case info > 27 || len(b)-next < widths[info-24]:
		return 0, 0, 0, at, api.Malformed
	}
	w := widths[info-24]
	whole := append(make([]byte, 8-w), b[next:next+w]...)
	return major, info, binary.BigEndian.Uint64(whole), next + w, api.OK
}

// textAt is the text or the bytes at a place, and the place behind.
func textAt(b []byte, at int) (s string, next int, e api.Errno) {
	major, info, n, next, e := headAt(b, at)
	switch {
	case e != api.OK:
		return "", at, e
	case info != 31 && n > api.MaxText:
		return "", at, api.Limit
	case info != 31 && (uint64(len(b)-next) < n || major == 3 && !utf8.Valid(b[next:next+int(n)])):
		return "", at, api.Malformed
	case info != 31:
		return string(b[next : next+int(n)]), next + int(n), api.OK
	}
	for next < len(b) && b[next] != 0xff {
		partMajor, partInfo, n, behind, e := headAt(b, next)
		if e != api.OK || partMajor != major || partInfo == 31 || uint64(len(b)-behind) < n {
			return "", at, api.Malformed
		}
		next = behind + int(n)
		if major == 3 && !utf8.Valid(b[behind:next]) {
			return "", at, api.Malformed
		}
		s += string(b[behind:next])
		if len(s) > api.MaxText {
			return "", at, api.Limit
		}
	}
	if next == len(b) {
		return "", at, api.Malformed
	}
	return s, next + 1, api.OK
}

// wholeAt is a whole number at a place, from whose first byte on there is something: a head, or a tag and bytes.
func wholeAt(b []byte, at int) (x *big.Int, next int, e api.Errno) {
	major, _, n, next, e := headAt(b, at)
	if e != api.OK {
		return nil, at, e
	}
	x = new(big.Int).SetUint64(n)
	below := major == 1
	if major == 6 {
		below = n == 3
		var s string
		switch {
		case next == len(b):
			return nil, at, api.Malformed
		case b[next] < 0x40 || b[next] >= 0x5f:
			return nil, at, api.Unsupported
		}
		if s, next, e = textAt(b, next); e != api.OK {
			return nil, at, e
		}
		x.SetBytes([]byte(s))
	}
	if below {
		x.Not(x)
	}
	return x, next, api.OK
}

// roomFor is the number that is x times ten to the tens.
func roomFor(x, tens *big.Int) (api.Tree, api.Errno) {
	if x.Sign() == 0 {
		return number("0"), api.OK
	}
	x, tens = new(big.Int).Set(x), new(big.Int).Set(tens)
	for {
		quo, rem := new(big.Int).QuoRem(x, big.NewInt(10), new(big.Int))
		if rem.Sign() != 0 {
			break
		}
		x = quo
		tens.Add(tens, big.NewInt(1))
	}
	if x.BitLen() > 32*api.MaxLimbs || tens.CmpAbs(big.NewInt(api.MaxExp)) > 0 {
		return api.Tree{}, api.Limit
	}
	return api.Tree{Kind: api.Number, N: api.Num{Neg: x.Sign() < 0, M: limbsOf(x), E: int(tens.Int64())}}, api.OK
}

// decimalAt is the number whose array is at a place.
func decimalAt(b []byte, at int) (t api.Tree, next int, e api.Errno) {
	if at == len(b) {
		return t, at, api.Malformed
	} else if b[at] < 0x80 || b[at] >= 0x9f {
		return t, at, api.Unsupported
	}
	_, _, n, next, e := headAt(b, at)
	if e != api.OK {
		return t, at, e
	} else if n != 2 {
		return t, at, api.Unsupported
	}
	var parts [2]*big.Int
	for i := range parts {
		if next == len(b) {
			return t, at, api.Malformed
		}
		if first := b[next]; (first >= 0x40 || first%32 == 31) && (i == 0 || first != 0xc2 && first != 0xc3) {
			return t, at, api.Unsupported
		}
		if parts[i], next, e = wholeAt(b, next); e != api.OK {
			return t, at, e
		}
	}
	t, e = roomFor(parts[1], parts[0])
	return t, next, e
}

// floatAs is the number that a float is.
func floatAs(f float64) (api.Tree, api.Errno) {
	x := new(big.Rat)
	if x.SetFloat64(f) == nil {
		return api.Tree{}, api.Unsupported
	}
	twos := x.Denom().BitLen() - 1
	return roomFor(new(big.Int).Mul(x.Num(), power(5, twos)), big.NewInt(int64(-twos)))
}

// simpleOf is what a head of the major type 7 stands for.
func simpleOf(info int, n uint64) (api.Tree, api.Errno) {
	switch info {
	case 20, 21:
		return truth(info == 21), api.OK
	case 22:
		return null(), api.OK
	case 24:
		if n < 32 {
			return api.Tree{}, api.Malformed
		}
	case 25:
		return floatAs(half(uint16(n)))
	case 26:
		return floatAs(float64(math.Float32frombits(uint32(n))))
	case 27:
		return floatAs(math.Float64frombits(n))
	}
	return api.Tree{}, api.Unsupported
}

// simpleAt is a value at a place that is neither an array nor an object, and the place behind it.
func simpleAt(b []byte, at int) (t api.Tree, next int, e api.Errno) {
	major, info, n, next, e := headAt(b, at)
	switch {
	case e != api.OK:
		return t, at, e
	case info == 31 && major != 2 && major != 3:
		return t, at, api.Malformed
	case major == 6 && n == 4:
		return decimalAt(b, next)
	case major == 6 && n != 2 && n != 3:
		return t, at, api.Unsupported
	case major == 7:
		t, e = simpleOf(info, n)
		return t, next, e
	case major == 2 || major == 3:
		s, next, e := textAt(b, at)
		return api.Tree{Kind: map[int]int{2: api.Bytes, 3: api.Text}[major], S: s}, next, e
	}
	x, next, e := wholeAt(b, at)
	if e == api.OK {
		t, e = roomFor(x, new(big.Int))
	}
	return t, next, e
}

// decodedOf is what Decode must answer. It goes by a list of what has not ended.
func decodedOf(b []byte) (api.Tree, api.Errno) {
	if len(b) > api.MaxFile {
		return api.Tree{}, api.Limit
	}
	var open []level
	var last api.Tree // the value that has ended, if one has
	for at, nodes := 0, 0; ; {
		var e api.Errno
		top := len(open) - 1
		if last.Kind != 0 && top < 0 {
			if at < len(b) {
				return api.Tree{}, api.Malformed
			}
			return last, api.OK
		}
		if last.Kind != 0 {
			open[top].values = append(open[top].values, last)
			last = api.Tree{}
		}
		between := top >= 0 && (!open[top].object || len(open[top].names) == len(open[top].values))
		ended := between && !open[top].open && uint64(len(open[top].values)) == open[top].many
		if !ended && at == len(b) {
			return api.Tree{}, api.Malformed
		}
		if between && open[top].open && b[at] == 0xff {
			ended = true
			at++
		}
		switch {
		case ended:
			last, e = open[top].value()
			open = open[:top]
		case between && open[top].open && len(open[top].values) == api.MaxItems:
			e = api.Limit
		case between && open[top].object:
			var name string
			if b[at]/32 != 3 {
				return api.Tree{}, api.Unsupported
			}
			name, at, e = textAt(b, at)
			open[top].names = append(open[top].names, name)
		case b[at] == 0xff:
			e = api.Malformed
		case nodes == api.MaxNodes || len(open) == api.MaxDepth:
			e = api.Limit
		case b[at]/32 == 4 || b[at]/32 == 5:
			nodes++
			major, info, n, next, headE := headAt(b, at)
			if e = headE; e == api.OK && n > api.MaxItems {
				e = api.Limit
			}
			at = next
			open = append(open, level{object: major == 5, open: info == 31, many: n})
		default:
			nodes++
			last, at, e = simpleAt(b, at)
		}
		if e != api.OK {
			return api.Tree{}, e
		}
	}
}

// hold holds Decode against the other reader, and answers its error.
func hold(t *testing.T, b string) api.Errno {
	t.Helper()
	want, wantE := decodedOf([]byte(b))
	if got, e := cbor.Decode([]byte(b)); e != wantE || !exact(got, want) {
		t.Fatalf("Decode of %s: %v, %d, not %v, %d", short(b), got, e, want, wantE)
	}
	return wantE
}

// holdDecode holds Decode against what it must answer: the value in every field.
func holdDecode(t *testing.T, b string, want api.Tree, wantE api.Errno) {
	t.Helper()
	got, e := cbor.Decode([]byte(b))
	if e != wantE || !exact(got, want) {
		t.Errorf("Decode of %s: %v, %d, not %v, %d", short(b), got, e, want, wantE)
	}
	if e == api.OK && !tree.Check(got) {
		t.Errorf("Decode of %s: what may not be", short(b))
	}
	if told, toldE := decodedOf([]byte(b)); toldE != wantE || !exact(told, want) {
		t.Errorf("another reader of %s: %v, %d", short(b), told, toldE)
	}
}

// refuse holds Decode against an error.
func refuse(t *testing.T, b string, e api.Errno) {
	t.Helper()
	holdDecode(t, b, api.Tree{}, e)
}

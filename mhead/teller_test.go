package mhead_test

import (
	"encoding/binary"
	"math"
	"slices"

	"erratum/api"
	"erratum/mhead"
)

// row is a row of the chapter's table: first bytes, their kind, how many bytes of a number and of a type stand behind one.
type row struct {
	least, most byte
	kind        int
	size, tail  int
	value       func(first byte) uint64 // of those without a number behind them
}

func none(byte) uint64 { return 0 }

// rows are the chapter's table.
func rows() []row {
	less := func(n int) func(byte) uint64 {
		return func(first byte) uint64 { return uint64(int64(first) - int64(n)) }
	}
	l := []row{
		{0x00, 0x7f, mhead.Uint, 0, 0, less(0)},
		{0x80, 0x8f, mhead.Map, 0, 0, less(0x80)},
		{0x90, 0x9f, mhead.Array, 0, 0, less(0x90)},
		{0xa0, 0xbf, mhead.Text, 0, 0, less(0xa0)},
		{0xc0, 0xc0, mhead.Nil, 0, 0, none},
		{0xc2, 0xc2, mhead.False, 0, 0, none},
		{0xc3, 0xc3, mhead.True, 0, 0, none},
		{0xca, 0xca, mhead.Half, 4, 0, nil},
		{0xcb, 0xcb, mhead.Float, 8, 0, nil},
		{0xe0, 0xff, mhead.Int, 0, 0, less(256)},
	}
	wide := func(kind int, tail int, first byte, sizes ...int) {
		for i, size := range sizes {
			l = append(l, row{first + byte(i), first + byte(i), kind, size, tail, nil})
		}
	}
	wide(mhead.Bytes, 0, 0xc4, 1, 2, 4)
	wide(mhead.Ext, 1, 0xc7, 1, 2, 4)
	wide(mhead.Uint, 0, 0xcc, 1, 2, 4, 8)
	wide(mhead.Int, 0, 0xd0, 1, 2, 4, 8)
	wide(mhead.Text, 0, 0xd9, 1, 2, 4)
	wide(mhead.Array, 0, 0xdc, 2, 4)
	wide(mhead.Map, 0, 0xde, 2, 4)
	for i, many := range []uint64{1, 2, 4, 8, 16} {
		first := 0xd4 + byte(i)
		l = append(l, row{first, first, mhead.Ext, 0, 1, func(byte) uint64 { return many }})
	}
	return l
}

// table is rows by first bytes.
var table = func() map[byte]row {
	m := map[byte]row{}
	for _, r := range rows() {
		for first := int(r.least); first <= int(r.most); first++ {
			m[byte(first)] = r
		}
	}
	return m
}()

// valueOf is the number of a row's head, of its first byte and the bytes of a number behind it.
func (r row) valueOf(first byte, l []byte) uint64 {
	if r.size == 0 {
		return r.value(first)
	}
	switch whole := append(make([]byte, 8-r.size), l...); {
	case r.kind != mhead.Int:
		return binary.BigEndian.Uint64(whole)
	case r.size == 1:
		return uint64(int64(int8(l[0])))
	case r.size == 2:
		return uint64(int64(int16(binary.BigEndian.Uint16(l))))
	case r.size == 4:
		return uint64(int64(int32(binary.BigEndian.Uint32(l))))
	default:
		return binary.BigEndian.Uint64(whole)
	}
}

// got is what Get answers.
type got struct {
	kind int
	n    uint64
	next int
	e    api.Errno
}

// get is Get, in one.
func get(b []byte, at int) got {
	kind, n, next, e := mhead.Get(b, at)
	return got{kind, n, next, e}
}

// gotOf is what Get must answer.
func gotOf(b []byte, at int) got {
	if at < 0 || at > len(b) {
		return got{e: api.Arg}
	}
	if at == len(b) {
		return got{e: api.Malformed}
	}
	r, ok := table[b[at]]
	if !ok {
		return got{e: api.Unsupported}
	}
	if len(b)-at < 1+r.size+r.tail {
		return got{e: api.Malformed}
	}
	return got{r.kind, r.valueOf(b[at], b[at+1:at+1+r.size]), at + 1 + r.size + r.tail, api.OK}
}

// headsOf are all heads of a kind with a number, but Ext.
func headsOf(kind int, n uint64) (l [][]byte) {
	whole := binary.BigEndian.AppendUint64(nil, n)
	for _, r := range rows() {
		for first := int(r.least); first <= int(r.most); first++ {
			b := append([]byte{byte(first)}, whole[8-r.size:]...)
			if r.kind == kind && r.valueOf(b[0], b[1:]) == n {
				l = append(l, b)
			}
		}
	}
	return l
}

// put is what a kind and a number that are handed in to Put are got as.
func put(kind int, n uint64) (int, uint64) {
	switch kind {
	case mhead.Nil, mhead.False, mhead.True:
		return kind, 0
	case mhead.Int:
		if n < 1<<63 {
			return mhead.Uint, n
		}
	case mhead.Text, mhead.Bytes, mhead.Array, mhead.Map, mhead.Half:
		return kind, n % (1 << 32)
	}
	return kind, n
}

// putOf is what Put must put behind; the second is how many heads there are as short as it.
func putOf(kind int, n uint64) ([]byte, int) {
	l := headsOf(put(kind, n))
	slices.SortFunc(l, func(a, b []byte) int { return len(a) - len(b) })
	many := 0
	for many < len(l) && len(l[many]) == len(l[0]) {
		many++
	}
	return l[0], many
}

// putKinds are those that Put puts.
func putKinds() []int {
	return []int{mhead.Nil, mhead.False, mhead.True, mhead.Uint, mhead.Int, mhead.Float, mhead.Text, mhead.Bytes, mhead.Array, mhead.Map, mhead.Half}
}

// numbers are at the edges of all widths and near them, from 0 on and below it, and one in each place of a bit.
func numbers() []uint64 {
	l := []uint64{0, 1, 2, 3, 14, 15, 16, 17, 30, 31, 32, 33, 34, 40, 500, 0x0102, 0x01020304, 0x0102030405060708, 0xfedcba9876543210}
	for bit := range 64 {
		n := uint64(1) << bit
		l = append(l, n-2, n-1, n, n+1, n|n>>1, ^n, ^n-1, ^n+1, ^n+2)
	}
	return append(l, math.MaxUint64, math.MaxUint64-1)
}

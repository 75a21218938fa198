package pack_test

import (
	"math"
	"testing"

	"erratum/api"
)

// good are bytes and what they are.
func good() map[string]api.Tree {
	two := func(first, second api.Tree) api.Tree {
		return api.Tree{Kind: api.Object, K: []string{"a", "b"}, V: []api.Tree{first, second}}
	}
	return map[string]api.Tree{
		"c0": null(), "c2": truth(false), "c3": truth(true),
		"00": number("0"), "01": number("1"), "7f": number("127"), "cc 80": number("128"), "cc 05": number("5"), "cc 00": number("0"), "cd 03e8": number("1000"), "cd 0005": number("5"), "ce 00000005": number("5"), "ce ffffffff": number("4294967295"), "cf 0000000000000000": number("0"), "cf 0000000100000000": number("4294967296"), "cf 8000000000000000": number("9223372036854775808"), "cf ffffffffffffffff": number("18446744073709551615"),
		"ff": number("-1"), "e0": number("-32"), "f6": number("-10"), "d0 df": number("-33"), "d0 ff": number("-1"), "d0 80": number("-128"), "d0 7f": number("127"), "d0 00": number("0"), "d1 ffff": number("-1"), "d1 8000": number("-32768"), "d1 00ff": number("255"), "d1 ff00": number("-256"), "d2 ffffffff": number("-1"), "d2 80000000": number("-2147483648"), "d2 7fffffff": number("2147483647"), "d3 ffffffffffffffff": number("-1"), "d3 8000000000000000": number("-9223372036854775808"), "d3 8000000000000001": number("-9223372036854775807"), "d3 7fffffffffffffff": number("9223372036854775807"), "d3 0000000000000005": number("5"), "d3 ffffffff00000000": number("-4294967296"), "d3 0000000000000000": number("0"),
		"ca 3fc00000": number("1.5"), "ca bf800000": number("-1"), "ca 00000000": number("0"), "ca 80000000": number("0"), "ca 5f800000": number("18446744073709551616"), "ca 7f7fffff": number("340282346638528859811704183484516925440"), "ca 3dcccccd": number("0.100000001490116119384765625"), "ca 42c80000": number("100"),
		"cb 3ff8000000000000": number("1.5"), "cb c000000000000000": number("-2"), "cb 0000000000000000": number("0"), "cb 8000000000000000": number("0"), "cb 3fb999999999999a": number("0.1000000000000000055511151231257827021181583404541015625"), "cb 4480f0cf064dd592": number("1e22"), "cb 4170000018000000": number("16777217.5"),
		"a0": text(""), "a1 61": text("a"), "a3 e282ac": text("\u20ac"), "a4 f09d849e": text("\U0001d11e"), "d9 00": text(""), "d9 01 61": text("a"), "da 0001 61": text("a"), "db 00000001 61": text("a"), "db 00000000": text(""), "a3 efbfbd": text("\ufffd"), "a1 00": text("\x00"), "a2 c3a9": text("\u00e9"), "a1 7f": text("\x7f"),
		"c4 00": blob(""), "c4 01 ff": blob("\xff"), "c4 03 616263": blob("abc"), "c5 0000": blob(""), "c5 0001 61": blob("a"), "c6 00000001 ff": blob("\xff"), "c6 00000000": blob(""), "c4 01 c1": blob("\xc1"),
		"90": list(), "91 00": list(number("0")), "93 c0 c3 c2": list(null(), truth(true), truth(false)), "dc 0000": list(), "dc 0001 c0": list(null()), "dd 00000001 c0": list(null()), "dd 00000002 01 02": list(number("1"), number("2")), "92 01 91 02": list(number("1"), list(number("2"))), "92 dc0000 90": list(list(), list()), "92 91 90 dd00000000": list(list(list()), list()), "93 a0 c400 80": list(text(""), blob(""), named()),
		"80": named(), "81 a161 00": named("a"), "81 a0 00": named(""), "de 0001 a161 00": named("a"), "df 00000000": named(), "df 00000001 a161 00": named("a"), "82 a162 01 a161 00": named("a", "b"), "83 a163 02 a161 00 a26161 01": named("a", "aa", "c"), "81 d90161 00": named("a"), "81 da000161 00": named("a"), "81 db0000000161 00": named("a"), "de 0002 a162 01 d90161 00": named("a", "b"), "82 a26162 00 db0000000162 01": named("ab", "b"),
		"82 a161 91c3 a162 01": two(list(truth(true)), number("1")), "82 a161 81a16100 a162 81a16100": two(named("a"), named("a")), "81 a161 ca3fc00000": one("a", number("1.5")), "92 81a16100 81a16100": list(named("a"), named("a")), "82 a161 90 a162 80": two(list(), named()), "82 a162 90 a161 80": two(named(), list()), "82 a4f0908080 01 a3efbfbf 00": named("\uffff", "\U00010000"), "82 a162 c0 a161 d3ffffffffffffffff": two(number("-1"), null()),
	}
}

// P12.2
func TestDecodeNamed(t *testing.T) {
	for b, v := range good() {
		b := bytesOf(b)
		holdDecode(t, b, v, api.OK)
		holdDecode(t, "\x92"+b+b, list(v, v), api.OK)
		holdDecode(t, "\xdc\x00\x02"+b+b, list(v, v), api.OK)
		holdDecode(t, "\x81\xa0"+b, one("", v), api.OK)
		holdDecode(t, "\xde\x00\x01\xd9\x00"+b, one("", v), api.OK)
	}
}

// P12.2: what is behind the value, whatever it is; and what ends too soon, wherever that is.
func TestDecodeCut(t *testing.T) {
	for b := range good() {
		b := bytesOf(b)
		for _, more := range []string{"\x00", "\xff", "\xc0", "\xc1", "\xa0", "\xd4", "\xd4\x01\x02", "\xcc", b} {
			refuse(t, b+more, api.Malformed)
			refuse(t, "\x91"+b+more, api.Malformed)
			refuse(t, "\x81\xa0"+b+more, api.Malformed)
		}
		for end := range len(b) {
			refuse(t, b[:end], api.Malformed)
			refuse(t, "\x91"+b[:end], api.Malformed)
			refuse(t, "\x92\x01"+b[:end], api.Malformed)
			refuse(t, "\x81\xa0"+b[:end], api.Malformed)
		}
		refuse(t, "\x92"+b, api.Malformed)
		refuse(t, "\xdc\x00\x02"+b, api.Malformed)
		refuse(t, "\x82\xa0"+b, api.Malformed)
		refuse(t, "\x82\xa0"+b+"\xa1a", api.Malformed)
		refuse(t, "\xdf\x00\x00\x00\x02\xa0"+b, api.Malformed)
	}
	refuse(t, "", api.Malformed)
}

// values are where a value may be: what stands ahead of it.
func values() []string {
	return []string{"", "\x91", "\x92\x01", "\xdc\x01\x2c", "\x93\x90\x80", "\x81\xa1a", "\x82\xa1a\x01\xa1b", "\xde\x00\x09\xd9\x01a", "\x91\x81\xa0\x91"}
}

// names are where a name is to be: what stands ahead of it.
func names() []string {
	return []string{"\x81", "\x82\xa1a\x01", "\xde\x01\x2c", "\xdf\x00\x00\x00\x02\xa1a\xa1a", "\x91\x83\xa0\x80"}
}

// wrong holds Decode of what is wrong from its first byte on, wherever a value may be, against an error; what stands behind it plays no part.
func wrong(t *testing.T, b string, e api.Errno) {
	t.Helper()
	b = bytesOf(b)
	for _, ahead := range values() {
		refuse(t, ahead+b, e)
	}
}

// behindAll are bytes that make nothing better: what is wrong is told already.
func behindAll(t *testing.T, b string, e api.Errno) {
	t.Helper()
	for _, more := range []string{"", "00", "ff", "c1", "cc", "a0", "d4", "da 07d1", "81 01", "01 02 03 04 05 06 07 08 09 0a"} {
		wrong(t, b+more, e)
	}
}

// P12.2: heads that are none, and such as end too soon.
func TestDecodeHeads(t *testing.T) {
	behindAll(t, "c1", api.Unsupported)
	for _, b := range []string{"", "cc", "cd", "cd 01", "ce", "ce 010203", "cf", "cf 01020304050607", "d0", "d1 ff", "d2 ffffff", "d3 ffffffffffffff", "ca", "ca 7f80", "ca 7fc000", "cb", "cb 7ff00000000000", "d9", "da 07", "db ffffff", "c4", "c5 ff", "c6 ffffff", "dc ff", "dd ffffff", "de ff", "df ffffff", "c7", "c7 00", "c8 0000", "c9 00000000", "c9 0000", "d4", "d5", "d6", "d7", "d8"} {
		wrong(t, b, api.Malformed)
	}
}

// P12.2: an Ext, at its first byte, as its head is read: what it has plays no part.
func TestDecodeExt(t *testing.T) {
	for _, b := range []string{"d4 00", "d4 01", "d4 ff", "d5 01", "d6 ff", "d7 ff", "d8 00", "c7 00 00", "c7 00 01", "c7 01 05", "c7 ff ff", "c8 0000 01", "c8 07d1 01", "c8 ffff ff", "c9 00000000 01", "c9 ffffffff 7f"} {
		behindAll(t, b, api.Unsupported)
		for _, ahead := range names() {
			refuse(t, ahead+bytesOf(b), api.Unsupported)
		}
	}
}

// P12.2
func TestDecodeTexts(t *testing.T) {
	for _, b := range []string{"ff", "80", "c3", "c328", "c080", "eda080", "edbfbf", "f4908080", "f8808080", "e08080", "61ff", "65f09d8461", "e282", "c3a9c3", "fe", "ed9fbfeda080"} {
		s := bytesOf(b)
		for _, head := range headsOf("text", uint64(len(s))) {
			for _, more := range []string{"", "\x00", "\xc1", "\xd4\x01", "\xac", "\xcc"} {
				for _, ahead := range values() {
					refuse(t, ahead+head+s+more, api.Malformed)
				}
				for _, ahead := range names() {
					refuse(t, ahead+head+s+more, api.Malformed)
				}
			}
		}
		for _, head := range headsOf("bytes", uint64(len(s))) { // bytes may be any
			holdDecode(t, head+s, blob(s), api.OK)
			holdDecode(t, "\x81\xa1a"+head+s, one("a", blob(s)), api.OK)
		}
	}
	for _, b := range []string{"a1", "a2 61", "bf 61", "d9 01", "d9 ff 61", "da 07d0 61", "db 000007d0", "c4 01", "c4 02 61", "c5 07d0", "c6 000007d0 00"} {
		wrong(t, b, api.Malformed)
		for _, ahead := range names() {
			if b[0] != 'c' {
				refuse(t, ahead+bytesOf(b), api.Malformed)
			}
		}
	}
}

// P12.2: infinities and none, behind their head.
func TestDecodeFloatsThatAreNone(t *testing.T) {
	for _, b := range []string{"ca 7f800000", "ca ff800000", "ca 7fc00000", "ca ffc00000", "ca 7f800001", "ca ffffffff", "cb 7ff0000000000000", "cb fff0000000000000", "cb 7ff8000000000000", "cb 7ff0000000000001", "cb ffffffffffffffff"} {
		behindAll(t, b, api.Unsupported)
		s := bytesOf(b)
		for end := 1; end < len(s); end++ {
			for _, ahead := range values() {
				refuse(t, ahead+s[:end], api.Malformed)
			}
		}
	}
}

// P12.2: a name that is none, by every first byte: its head is read, then it is refused.
func TestDecodeNames(t *testing.T) {
	behind := "\x01\x02\x03\x04\x05\x06\x07\x08\x09abcdefghijklmnopqrstuvwxyz"
	for _, ahead := range names() {
		refuse(t, ahead, api.Malformed)
		for first := range 256 {
			b := string([]byte{byte(first)}) + behind
			switch h, next, e := headAt([]byte(b), 0); {
			case first == 0xc1:
				refuse(t, ahead+b, api.Unsupported)
				refuse(t, ahead+b[:1], api.Unsupported)
			case e != api.OK:
				t.Fatal(first, e)
			case h.kind != "text":
				for end := 1; end <= len(b); end++ {
					if end < next {
						refuse(t, ahead+b[:end], api.Malformed)
					} else {
						refuse(t, ahead+b[:end], api.Unsupported)
					}
				}
			case h.many > api.MaxText:
				for end := 1; end <= len(b); end++ {
					if end < next {
						refuse(t, ahead+b[:end], api.Malformed)
					} else {
						refuse(t, ahead+b[:end], api.Limit)
					}
				}
			default:
				for end := 1; end < min(len(b), next+int(h.many)); end++ {
					refuse(t, ahead+b[:end], api.Malformed)
				}
			}
		}
		for _, b := range []string{"a161 c1", "a0 d401", "d900 ca7f800000", "a162 8101", "da000162 c7 ff ff"} {
			refuse(t, ahead+bytesOf(b), api.Unsupported)
		}
		for _, b := range []string{"da07d1", "d9 00 da07d1", "a162 dc012d", "a162 c607d1ffff"} {
			refuse(t, ahead+bytesOf(b), api.Limit)
		}
	}
}

// P12.2
func TestDecodeNamesTwice(t *testing.T) {
	for b, many := range map[string]uint64{"a161 01 a161 02": 2, "a161 01 a161 01": 2, "a0 01 a0 02": 2, "a161 01 a162 02 a161 03": 3, "a162 01 a161 02 a161 03 a163 04": 4, "a161 01 d90161 02": 2, "db0000000161 01 a161 02": 2, "a0 01 da0000 02": 2, "a161 80 a161 90": 2, "a26161 01 a161 02 d9026161 03": 3, "a161 c0 a162 c0 a162 c0 a161 c0": 4} {
		members := bytesOf(b)
		for _, head := range headsOf("object", many) {
			for _, ahead := range values() {
				for _, more := range []string{"", "\x00", "\xc1", "\xd4\x01", "\xda\x07\xd1"} {
					refuse(t, ahead+head+members+more, api.Malformed)
				}
			}
		}
		for _, head := range headsOf("object", many+1) { // not at its end: what else is wrong is told ahead of that
			object := head + members
			refuse(t, object, api.Malformed)
			refuse(t, object+"\xa1z", api.Malformed)
			refuse(t, object+"\xa1z\xc1", api.Unsupported)
			refuse(t, object+"\xa1z\xd4\x01", api.Unsupported)
			refuse(t, object+"\xa1z\xda\x07\xd1", api.Limit)
			refuse(t, object+"\x01", api.Unsupported)
			refuse(t, object+"\xc4\x01z", api.Unsupported)
			refuse(t, object+"\xda\x07\xd1", api.Limit)
			refuse(t, object+"\xa1z\x01", api.Malformed)
			refuse(t, object+"\xa1z\x01\xc1", api.Malformed)
		}
	}
	holdDecode(t, "\x82\xa1a\x81\xa1a\x00\xa1b\x81\xa1a\x00", api.Tree{Kind: api.Object, K: []string{"a", "b"}, V: []api.Tree{named("a"), named("a")}}, api.OK) // not in one
	refuse(t, "\x82\xa1a\x82\xa1b\x00\xa1b\x01\xda\x07\xd1", api.Malformed)                                                                                     // the one that ends first
}

// P12.2: whole numbers in all ways to write them.
func TestDecodeWhole(t *testing.T) {
	for bit := range 64 {
		for off := int64(-3); off <= 3; off++ {
			n := uint64(1)<<bit + uint64(off)
			for _, b := range headsOf("uint", n) {
				hold(t, b)
			}
			if size := int64(n); size > 0 {
				for _, b := range belows(-size) {
					hold(t, b)
				}
			}
		}
	}
	for _, n := range []int64{math.MinInt64, math.MinInt64 + 1, math.MinInt32, math.MinInt32 - 1, math.MinInt16, math.MinInt8, -1} {
		for _, b := range belows(n) {
			v, _ := numberFrom(begun{"int", 0, uint64(n)})
			holdDecode(t, b, v, api.OK)
		}
	}
	for first := range 256 { // numbers of one byte, and Ints from 0 on
		for _, b := range []string{string([]byte{byte(first)}), string([]byte{0xcc, byte(first)}), string([]byte{0xd0, byte(first)}), string([]byte{0xd1, byte(first), 0}), string([]byte{0xd2, byte(first), 0, 0, 7}), string([]byte{0xd3, byte(first), 0, 0, 0, 0, 0, 0, 9})} {
			hold(t, b)
		}
	}
}

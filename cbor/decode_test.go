package cbor_test

import (
	"slices"
	"strings"
	"testing"

	"erratum/api"
	"erratum/num"
)

// good are bytes and what they are.
func good() map[string]api.Tree {
	two := func(first, second api.Tree) api.Tree {
		return api.Tree{Kind: api.Object, K: []string{"a", "b"}, V: []api.Tree{first, second}}
	}
	return map[string]api.Tree{
		"f6": null(), "f4": truth(false), "f5": truth(true),
		"00": number("0"), "17": number("23"), "18 18": number("24"), "19 03e8": number("1000"), "1b ffffffffffffffff": number("18446744073709551615"), "18 05": number("5"), "19 0005": number("5"), "1a 00000005": number("5"), "1b 0000000000000000": number("0"),
		"20": number("-1"), "37": number("-24"), "38 18": number("-25"), "38 00": number("-1"), "3b ffffffffffffffff": number("-18446744073709551616"), "3b 7fffffffffffffff": number("-9223372036854775808"), "3b 00000000ffffffff": number("-4294967296"), "39 0009": number("-10"),
		"40": blob(""), "41 ff": blob("\xff"), "43 616263": blob("abc"), "58 01 61": blob("a"), "5b 0000000000000001 00": blob("\x00"), "5f ff": blob(""), "5f 40 ff": blob(""), "5f 41 c3 41 a9 ff": blob("\u00e9"), "5f 42 0102 40 58 01 03 ff": blob("\x01\x02\x03"), "5f 41 ff ff": blob("\xff"), "41 f6": blob("\xf6"),
		"60": text(""), "61 61": text("a"), "63 e282ac": text("\u20ac"), "64 f09d849e": text("\U0001d11e"), "78 01 61": text("a"), "79 0001 61": text("a"), "7b 0000000000000000": text(""), "7f ff": text(""), "7f 60 60 ff": text(""), "7f 61 61 60 62 6263 ff": text("abc"), "7f 78 02 c3a9 61 61 ff": text("\u00e9a"), "63 efbfbd": text("\ufffd"), "61 00": text("\x00"),
		"80": list(), "81 00": list(number("0")), "83 f6 f5 f4": list(null(), truth(true), truth(false)), "98 01 f6": list(null()), "9b 0000000000000002 01 02": list(number("1"), number("2")), "9f ff": list(), "9f 01 ff": list(number("1")), "9f 01 9f 02 ff ff": list(number("1"), list(number("2"))), "82 9f ff 80": list(list(), list()), "9f 81 9f ff 80 ff": list(list(list()), list()), "83 60 40 a0": list(text(""), blob(""), named()),
		"a0": named(), "a1 61 61 00": named("a"), "a1 60 00": named(""), "b8 01 61 61 00": named("a"), "ba 00000000": named(), "a2 61 62 01 61 61 00": named("a", "b"), "a3 61 63 02 61 61 00 62 61 61 01": named("a", "aa", "c"), "bf ff": named(), "bf 61 61 00 ff": named("a"), "bf 61 62 01 7f 61 61 ff 00 ff": named("a", "b"), "a1 78 01 61 00": named("a"), "a1 7f ff 00": named(""), "a1 7f 61 61 61 62 ff 00": named("ab"),
		"a2 61 61 81 f5 61 62 01": two(list(truth(true)), number("1")), "a2 61 61 a1 61 61 00 61 62 a1 61 61 00": two(named("a"), named("a")), "a1 61 61 f9 3e00": one("a", number("1.5")), "82 a1 61 61 00 a1 61 61 00": list(named("a"), named("a")), "bf 61 61 9f ff 61 62 bf ff ff": two(list(), named()), "bf 61 62 9f ff 61 61 bf ff ff": two(named(), list()), "a2 64 f0908080 01 63 efbfbf 00": named("\uffff", "\U00010000"),
		"f9 0000": number("0"), "f9 8000": number("0"), "fa 00000000": number("0"), "fa 80000000": number("0"), "fb 0000000000000000": number("0"), "fb 8000000000000000": number("0"),
		"f9 3c00": number("1"), "f9 3e00": number("1.5"), "f9 be00": number("-1.5"), "f9 7bff": number("65504"), "f9 0001": number("5.9604644775390625e-8"), "f9 0400": number("0.00006103515625"), "fa 3fc00000": number("1.5"), "fa 7f7fffff": number("340282346638528859811704183484516925440"), "fa 3dcccccd": number("0.100000001490116119384765625"), "fb 3ff8000000000000": number("1.5"), "fb c000000000000000": number("-2"), "fb 3fb999999999999a": number("0.1000000000000000055511151231257827021181583404541015625"),
		"c2 40": number("0"), "c2 41 00": number("0"), "c2 43 000000": number("0"), "c2 41 07": number("7"), "c2 43 000100": number("256"), "c2 45 0100000000": number("4294967296"), "c2 49 010000000000000000": number("18446744073709551616"), "c2 49 010000000000000001": number("18446744073709551617"), "c2 4b 0000000000000000000005": number("5"), "c2 58 01 07": number("7"), "c2 59 0002 0102": number("258"), "d8 02 41 07": number("7"), "db 0000000000000002 41 07": number("7"),
		"c3 40": number("-1"), "c3 41 00": number("-1"), "c3 41 ff": number("-256"), "c3 44 ffffffff": number("-4294967296"), "c3 49 010000000000000000": number("-18446744073709551617"), "c3 48 ffffffffffffffff": number("-18446744073709551616"), "d9 0003 42 0009": number("-10"),
		"c4 82 00 00": number("0"), "c4 82 20 01": number("0.1"), "c4 82 20 20": number("-0.1"), "c4 82 20 18 64": number("10"), "c4 82 00 18 64": number("100"), "c4 82 02 03": number("300"), "c4 98 02 190002 03": number("300"), "d8 04 9b0000000000000002 1b0000000000000001 03": number("30"), "c4 82 38 63 c3 41 01": number("-2e-100"), "c4 82 01 c2 40": number("0"), "c4 82 22 c2 42 0bb8": number("3"), "c4 82 00 c2 4a 00 000000000000000007": number("7"), "c4 82 19 04b0 01": number("1e1200"), "c4 82 39 04af 20": number("-1e-1200"), "c4 82 20 3b ffffffffffffffff": number("-1844674407370955161.6"), "c4 82 01 c3 40": number("-10"), "c4 82 20 c3 41 09": number("-1"),
		"c4 82 3b ffffffffffffffff 00": number("0"), "c4 82 1b ffffffffffffffff 00": number("0"), "c4 82 1b 7fffffffffffffff c2 40": number("0"), "c4 82 3b 7fffffffffffffff c2 42 0000": number("0"), "c4 82 1a 7fffffff 1b 0000000000000000": number("0"), "c4 82 1a 000186a0 00": number("0"), "c4 82 3a 000186a0 00": number("0"),
		"82 c4 82 20 01 c2 41 05": list(number("0.1"), number("5")), "9f c4 82 20 01 ff": list(number("0.1")), "a1 61 61 c2 40": one("a", number("0")), "9f c3 40 f9 0000 f6 ff": list(number("-1"), number("0"), null()),
	}
}

// P10.3
func TestDecodeNamed(t *testing.T) {
	for b, v := range good() {
		b := bytesOf(b)
		holdDecode(t, b, v, api.OK)
		holdDecode(t, "\x82"+b+b, list(v, v), api.OK)
		holdDecode(t, "\x9f"+b+b+"\xff", list(v, v), api.OK)
		holdDecode(t, "\xa1\x60"+b, one("", v), api.OK)
		holdDecode(t, "\xbf\x7f\x60\xff"+b+"\xff", one("", v), api.OK)
	}
}

// P10.3: what is behind the value, whatever it is; and what ends too soon, wherever that is.
func TestDecodeCut(t *testing.T) {
	for b := range good() {
		b := bytesOf(b)
		for _, more := range []string{"\x00", "\xff", "\xf6", "\x1c", "\x60", "\xe0", "\xc0", b} {
			refuse(t, b+more, api.Malformed)
		}
		for end := range len(b) {
			refuse(t, b[:end], api.Malformed)
			refuse(t, "\x81"+b[:end], api.Malformed)
			refuse(t, "\x9f"+b[:end], api.Malformed)
			refuse(t, "\xa1\x60"+b[:end], api.Malformed)
		}
		refuse(t, "\x82"+b, api.Malformed)
		refuse(t, "\x9f"+b, api.Malformed)
		refuse(t, "\xa2\x60"+b, api.Malformed)
		refuse(t, "\xbf\x60"+b, api.Malformed)
	}
}

// values are where a value may be: what stands ahead of it.
func values() []string {
	return []string{"", "\x81", "\x82\x01", "\x9f", "\x9f\x01", "\xa1\x61a", "\xa2\x61a\x01\x61b", "\xbf\x61a", "\xbf\x60\xf6\x7f\x61a\xff", "\x9f\xbf\x60\x81"}
}

// wrong holds Decode of what is wrong from its first byte on, wherever a value may be, against an error; what stands behind it plays no part.
func wrong(t *testing.T, b string, e api.Errno) {
	t.Helper()
	b = bytesOf(b)
	for _, ahead := range values() {
		refuse(t, ahead+b, e)
	}
}

// behindAll are bytes that make nothing better: what is wrong is told already.
func behindAll(t *testing.T, b string, e api.Errno) {
	t.Helper()
	for _, more := range []string{"", "00", "ff", "1c", "e0", "f7", "60", "41", "79 07d1", "c0 00", "a1 01", "01 02 03 04 05 06 07 08 09 0a"} {
		wrong(t, b+more, e)
	}
}

// P10.3: heads that are none, and such as may not be open.
func TestDecodeHeads(t *testing.T) {
	for major := range 8 {
		for info := 28; info <= 30; info++ {
			behindAll(t, hexOf(byte(major*32+info)), api.Malformed)
		}
	}
	for _, b := range []string{"1f", "3f", "df"} {
		behindAll(t, b, api.Malformed)
	}
	for _, ahead := range []string{"", "\x81", "\x82\x01", "\xa1\x61a", "\xa2\x61a\x01\x61b", "\xbf\x61a", "\xbf\x60\xf6\x7f\x61a\xff", "\x9f\xa1\x60", "\x9f\x81"} {
		for _, more := range []string{"", "\x00", "\xff", "\x1c", "\xe0"} {
			refuse(t, ahead+"\xff"+more, api.Malformed) // a break where none may be
		}
	}
	refuse(t, "", api.Malformed)
	for _, b := range []string{"18", "19", "19 01", "1a 010203", "1b 01020304050607", "38", "58", "78", "98", "b8", "d8", "f8", "f9 00", "fa 000000", "fb 00000000000000"} {
		wrong(t, b, api.Malformed)
	}
}

// hexOf is a byte as digits of sixteen.
func hexOf(b byte) string {
	const digits = "0123456789abcdef"
	return digits[b>>4:b>>4+1] + digits[b&15:b&15+1]
}

// P10.3
func TestDecodeTexts(t *testing.T) {
	for _, b := range []string{
		"61 ff", "61 80", "61 c3", "62 c328", "62 c080", "63 eda080", "63 edbfbf", "64 f4908080", "64 f8808080", "63 e08080", "62 61ff", "65 64f09d8461",
		"7f 61 c3 61 a9 ff", "7f 62 e282 61 ac ff", "7f 60 61 ff ff",
		"7f 41 61 ff", "7f 01 ff", "7f 80 ff", "7f a0 ff", "7f f6 ff", "7f c2 40 ff", "7f 7f ff ff", "7f 7f 61 61 ff ff", "7f 5f ff ff", "7f 9f ff ff", "7f 61 61 41 62 ff", "7f 7c", "7f 61 61 7d", "7f e0",
		"5f 61 61 ff", "5f 01 ff", "5f 80 ff", "5f f6 ff", "5f 5f ff ff", "5f 5f 41 61 ff ff", "5f 7f ff ff", "5f 41 61 61 62 ff", "5f 5c", "5f 41 61 5e",
	} {
		behindAll(t, b, api.Malformed)
	}
	for _, b := range []string{"61", "62 61", "41", "42 61", "78 ff 61", "79 07d0 61", "59 07d0", "7f", "7f 61", "7f 61 61", "7f 62 61 ff", "7f 7b ffffffffffffffff 61 ff", "7f 7b 8000000000000000", "5f", "5f 41", "5f 42 61", "5f 41 61", "5f 5b ffffffffffffffff 61 ff", "5f 59 07d1 61 ff", "7f 79 07d1 61 ff"} {
		wrong(t, b, api.Malformed)
		if b[0] == '6' || b[0] == '7' {
			refuse(t, "\xa1"+bytesOf(b), api.Malformed) // as a name
			refuse(t, "\xbf\x60\x00"+bytesOf(b), api.Malformed)
		}
	}
	wrong(t, "5f 7f", api.Malformed)
}

// P10.3
func TestDecodeSimple(t *testing.T) {
	for n := range 256 {
		switch b := hexOf(byte(n)); {
		case n < 20 || n == 23:
			behindAll(t, hexOf(byte(0xe0+n)), api.Unsupported)
			behindAll(t, "f8"+b, api.Malformed)
		case n < 32:
			behindAll(t, "f8"+b, api.Malformed)
		default:
			behindAll(t, "f8"+b, api.Unsupported)
		}
	}
	for _, b := range []string{"f9 7c00", "f9 fc00", "f9 7e00", "f9 7c01", "f9 fe00", "f9 ffff", "fa 7f800000", "fa ff800000", "fa 7fc00000", "fa 7f800001", "fa ffffffff", "fb 7ff0000000000000", "fb fff0000000000000", "fb 7ff8000000000000", "fb 7ff0000000000001", "fb ffffffffffffffff"} {
		behindAll(t, b, api.Unsupported)
	}
	for _, b := range []string{"f9 7c", "fa 7f8000", "fb 7ff00000000000"} {
		wrong(t, b, api.Malformed)
	}
}

// P10.3
func TestDecodeNames(t *testing.T) {
	for _, ahead := range []string{"\xa1", "\xa2\x61a\x01", "\xbf", "\xbf\x61a\x01", "\x81\xa3\x60\xa0", "\x9f\xbf"} {
		open := ahead[len(ahead)-1] == 0xbf || strings.HasPrefix(ahead, "\xbf")
		for first := range 256 {
			e := api.Unsupported
			switch b := string([]byte{byte(first)}); {
			case first == 0xff && open:
				continue
			case first/32 == 3: // a text's head, behind which nothing is, or a text
				e = api.Malformed
				refuse(t, ahead+b, e)
			default:
				for _, more := range []string{"", "\x00", "\xff", "\x1c", "abcdefghijklmnopqrstuvwxyz"} {
					refuse(t, ahead+b+more, e)
				}
			}
		}
		for _, b := range []string{"", "61 ff", "61", "7c", "7d 61 61", "78", "7f", "7f 61", "7f 61 61", "7f 41 61 ff", "7f 7f ff ff", "7f 61 c3 61 a9 ff", "61 61", "60", "7f ff", "61 61 1c", "60 ff", "61 61 ff", "7f ff ff"} {
			refuse(t, ahead+bytesOf(b), api.Malformed)
		}
		for _, b := range []string{"61 61 c0", "60 f7", "7f ff f9 7c00", "61 62 a1 01", "60 c2 60"} {
			refuse(t, ahead+bytesOf(b), api.Unsupported)
		}
	}
	holdDecode(t, "\xbf\xff", named(), api.OK)
	holdDecode(t, "\xbf\x61a\x00\xff", named("a"), api.OK)
}

// P10.3
func TestDecodeNamesTwice(t *testing.T) {
	for b, many := range map[string]int{"61 61 01 61 61 02": 2, "61 61 01 61 61 01": 2, "60 01 60 02": 2, "61 61 01 61 62 02 61 61 03": 3, "61 62 01 61 61 02 61 61 03 61 63 04": 4, "61 61 01 7f 61 61 ff 02": 2, "61 61 01 78 01 61 02": 2, "7f 60 ff 01 7f ff 02": 2, "61 61 a0 61 61 80": 2, "62 6161 01 61 61 02 7f 61 61 61 61 ff 03": 3} {
		members := bytesOf(b)
		for _, object := range []string{headOf(5, uint64(many)) + members, "\xbf" + members + "\xff"} {
			for _, ahead := range values() {
				for _, more := range []string{"", "\x00", "\xe0", "\xff"} {
					refuse(t, ahead+object+more, api.Malformed)
				}
			}
		}
		for _, object := range []string{headOf(5, uint64(many+1)) + members, "\xbf" + members} { // not at its end: what else is wrong is told ahead of that
			refuse(t, object, api.Malformed)
			refuse(t, object+"\x61z\xe0", api.Unsupported)
			refuse(t, object+"\x61z\x79\x07\xd1", api.Limit)
			refuse(t, object+"\x41z", api.Unsupported)
			refuse(t, object+"\x79\x07\xd1", api.Limit)
			refuse(t, object+"\x61z\x01", api.Malformed)
		}
	}
	holdDecode(t, "\xa2\x61a\xa1\x61a\x00\x61b\xa1\x61a\x00", api.Tree{Kind: api.Object, K: []string{"a", "b"}, V: []api.Tree{named("a"), named("a")}}, api.OK) // not in one
}

// P10.3: tags that are none of numbers'.
func TestDecodeOtherTags(t *testing.T) {
	for n := range uint64(300) {
		if n < 2 || n > 4 {
			head := headOf(6, n)
			for _, more := range []string{"", "\x00", "\x40", "\x82\x20\x01", "\x1c", "\xff", "\x60"} {
				for _, ahead := range values() {
					refuse(t, ahead+head+more, api.Unsupported)
				}
			}
		}
	}
	for _, b := range []string{"d8 00", "d9 0000", "d9 d9f7", "da 00010002", "da 00000102", "db 0000000100000002", "db ffffffffffffffff", "db 0200000000000000"} {
		behindAll(t, b, api.Unsupported)
	}
}

// P10.3: what stands behind tags.
func TestDecodeTagContents(t *testing.T) {
	for first := range 256 {
		b := hexOf(byte(first))
		for _, tag := range []string{"c2", "c3", "d8 02", "d8 03", "c4 82 00 c2", "c4 82 00 c3"} {
			switch {
			case first/32 != 2 || first == 0x5f:
				behindAll(t, tag+b, api.Unsupported)
			case first >= 0x5c:
				behindAll(t, tag+b, api.Malformed)
			case first > 0x40:
				wrong(t, tag+b, api.Malformed)
			}
		}
		for _, tag := range []string{"c4", "d8 04"} {
			switch {
			case first/32 != 4 || first == 0x9f:
				behindAll(t, tag+b, api.Unsupported)
			case first >= 0x9c:
				behindAll(t, tag+b, api.Malformed)
			case first >= 0x98 || first == 0x82:
				wrong(t, tag+b, api.Malformed)
			default:
				behindAll(t, tag+b, api.Unsupported)
			}
		}
		for _, ahead := range []string{"c4 82", "c4 82 00", "c4 82 18 64", "c4 98 02"} {
			isM := strings.HasPrefix(ahead, "c4 82 ")
			switch {
			case isM && (first == 0xc2 || first == 0xc3):
				wrong(t, ahead+b, api.Malformed)
			case first >= 0x40 || first%32 == 31:
				behindAll(t, ahead+b, api.Unsupported)
			case first%32 >= 28:
				behindAll(t, ahead+b, api.Malformed)
			case !isM || first%32 >= 24:
				wrong(t, ahead+b, api.Malformed)
			}
		}
	}
	for _, b := range []string{"c2", "c3", "c4", "c4 82", "c4 82 00", "c4 82 00 c2", "c4 82 00 c3", "c2 58", "c2 59 01", "c2 42 01", "c4 98", "c4 99 00", "c2 59 07d0 00", "c3 59 07d0 00", "c4 82 00 c2 59 07d0 00"} {
		wrong(t, b, api.Malformed)
	}
	for _, b := range []string{"c4 98 00", "c4 98 03", "c4 99 0102", "c4 99 012d", "c4 9b 0000000100000002", "c4 9b ffffffffffffffff", "c4 80", "c4 81 01", "c4 83 01 02 03"} {
		behindAll(t, b, api.Unsupported)
	}
	for _, b := range []string{"c2 59 07d1", "c3 59 07d1", "c2 5b ffffffffffffffff", "c2 5a 00010000", "c4 82 00 c2 59 07d1", "c4 82 00 c3 5b 8000000000000000"} {
		behindAll(t, b, api.Limit)
	}
}

// P10.3: tags' contents and parts are no values.
func TestDecodeTagsAreNoValues(t *testing.T) {
	for b, v := range map[string]api.Tree{"\xc2\x41\x07": number("7"), "\xc3\x41\x07": number("-8"), "\xc4\x82\x20\x01": number("0.1"), "\xc4\x82\x20\xc2\x41\x01": number("0.1"), "\xc4\x82\x20\xc3\x40": number("-0.1")} {
		holdDecode(t, strings.Repeat("\x81", 63)+b, nest(63, v, inArray), api.OK)
		refuse(t, strings.Repeat("\x81", 64)+b, api.Limit)
		holdDecode(t, "\x99\x01\x2c"+strings.Repeat(b, 300), list(many(300, v)...), api.OK)
		holdDecode(t, "\x9f"+strings.Repeat(b, 300)+"\xff", list(many(300, v)...), api.OK)
		row, rows := "\x98\xf9"+strings.Repeat(b, 249), list(many(249, v)...)
		last, lasts := "\x98\xf8"+strings.Repeat(b, 248), list(many(248, v)...)
		holdDecode(t, "\x88"+strings.Repeat(row, 7)+last, list(append(many(7, rows), lasts)...), api.OK) // 2000 values
		refuse(t, "\x88"+strings.Repeat(row, 8), api.Limit)
	}
}

// P10.3: numbers that have no room are told behind them.
func TestDecodeNumberLimit(t *testing.T) {
	ones := func(n int) string { return strings.Repeat("\x01", n) }
	for _, tag := range []string{"\xc2", "\xc3"} {
		neg := tag == "\xc3"
		for _, ahead := range []string{"", "\xc4\x82\x00", "\xc4\x82\x19\x04\x4c", "\xc4\x82\x39\x04\x4b"} { // tens 1100 and -1100
			tens := map[string]int{"": 0, "\xc4\x82\x00": 0, "\xc4\x82\x19\x04\x4c": 1100, "\xc4\x82\x39\x04\x4b": -1100}[ahead]
			for n := 355; n <= 365; n++ {
				m := limbsOf(bigBytes(ones(n)))
				if neg {
					m[0]++
				}
				want, ok := num.Make(neg, m, tens)
				b := ahead + tag + "\x59\x01" + string([]byte{byte(n - 256)}) + ones(n)
				if ok != (n <= 360) {
					t.Fatal(n, ok)
				}
				if ok {
					holdDecode(t, b, api.Tree{Kind: api.Number, N: want}, api.OK)
					continue
				}
				refuse(t, b, api.Limit)
				refuse(t, b+"\x00", api.Limit)
				refuse(t, "\x82"+b+"\x1c", api.Limit)
				refuse(t, b[:len(b)-1], api.Malformed)
			}
		}
	}
	full := strings.Repeat("\xff", 360)
	holdDecode(t, "\xc2\x59\x01\x68"+full, api.Tree{Kind: api.Number, N: api.Num{M: slices.Repeat([]uint32{0xffffffff}, 90)}}, api.OK)
	refuse(t, "\xc3\x59\x01\x68"+full, api.Limit) // one more has no room
	holdDecode(t, "\xc3\x59\x01\x68"+full[:359]+"\xfe", api.Tree{Kind: api.Number, N: api.Num{Neg: true, M: slices.Repeat([]uint32{0xffffffff}, 90)}}, api.OK)
	holdDecode(t, "\xc2\x59\x07\xd0"+strings.Repeat("\x00", 1999)+"\x07", number("7"), api.OK)
	holdDecode(t, "\xc3\x59\x07\xd0"+strings.Repeat("\x00", 2000), number("-1"), api.OK)
	holdDecode(t, "\xc4\x82\x1b\xff\xff\xff\xff\xff\xff\xff\xff\xc2\x59\x07\xd0"+strings.Repeat("\x00", 2000), number("0"), api.OK)
	for _, tens := range []int{400, 867, 900, 1200, 1201, 2000, 4000} { // as many tens as a natural has are no limbs of its number
		digits := string(power(10, tens).Bytes())
		b := "\xc2" + headOf(2, uint64(len(digits))) + digits
		tensOut := tens - 1200
		less := "\xc4\x82\x39\x04\xaf" + b
		if tens <= api.MaxExp {
			holdDecode(t, b, api.Tree{Kind: api.Number, N: api.Num{M: []uint32{1}, E: tens}}, api.OK)
		} else {
			refuse(t, b, api.Limit)
		}
		if tensOut <= api.MaxExp {
			want, _ := num.Make(false, []uint32{1}, tensOut)
			holdDecode(t, less, api.Tree{Kind: api.Number, N: want}, api.OK)
		} else {
			refuse(t, less, api.Limit)
		}
	}
}

// P10.3: how many tens there may be.
func TestDecodeTens(t *testing.T) {
	for _, x := range []struct {
		b string
		e api.Errno
	}{
		{"19 04b0", api.OK}, {"19 04b1", api.Limit}, {"39 04af", api.OK}, {"39 04b0", api.Limit}, {"1a 0001869f", api.Limit}, {"1a 000186a0", api.Limit}, {"1a 000186a1", api.Limit}, {"3a 0001869f", api.Limit}, {"3a 000186a0", api.Limit}, {"3a 000186a1", api.Limit}, {"1a 7fffffff", api.Limit}, {"1a ffffffff", api.Limit}, {"3a 7fffffff", api.Limit}, {"3a ffffffff", api.Limit}, {"1b 0000000100000000", api.Limit}, {"1b 7fffffffffffffff", api.Limit}, {"1b 8000000000000000", api.Limit}, {"1b ffffffffffffffff", api.Limit}, {"3b 7fffffffffffffff", api.Limit}, {"3b 7ffffffffffffffe", api.Limit}, {"3b 8000000000000000", api.Limit}, {"3b ffffffffffffffff", api.Limit}, {"3b fffffffffffffffe", api.Limit},
	} {
		ahead := "\xc4\x82" + bytesOf(x.b)
		for _, nought := range []string{"\x00", "\x18\x00", "\x1b\x00\x00\x00\x00\x00\x00\x00\x00", "\xc2\x40", "\xc2\x42\x00\x00"} {
			holdDecode(t, ahead+nought, number("0"), api.OK)
		}
		for _, m := range []string{"\x01", "\x20", "\x1b\xff\xff\xff\xff\xff\xff\xff\xff", "\xc2\x41\x01", "\xc3\x40"} {
			if x.e != api.OK {
				refuse(t, ahead+m, x.e)
				refuse(t, ahead+m+"\x1c", x.e)
				refuse(t, "\x82"+ahead+m+"\xe0", x.e)
			}
		}
		// what is wrong with the digits comes first
		refuse(t, ahead, api.Malformed)
		refuse(t, ahead+"\x18", api.Malformed)
		refuse(t, ahead+"\x1c", api.Malformed)
		refuse(t, ahead+"\xc2\x42\x01", api.Malformed)
		refuse(t, ahead+"\x60", api.Unsupported)
		refuse(t, ahead+"\xc4", api.Unsupported)
	}
	holdDecode(t, "\xc4\x82\x19\x04\xb0\x01", number("1e1200"), api.OK)
	holdDecode(t, "\xc4\x82\x39\x04\xaf\x20", number("-1e-1200"), api.OK)
	holdDecode(t, "\xc4\x82\x19\x04\xaf\x0a", number("1e1200"), api.OK)
	refuse(t, "\xc4\x82\x19\x04\xb0\x0a", api.Limit)
	holdDecode(t, "\xc4\x82\x39\x04\xb0\x0a", number("1e-1200"), api.OK)
}

package nat_test

import (
	"math/big"
	"slices"
	"strings"
	"testing"

	"erratum/nat"
)

func TestDigits(t *testing.T) {
	for _, x := range []struct {
		l    []uint32
		want string
	}{
		{nil, "0"}, {[]uint32{0}, "0"}, {[]uint32{0, 0}, "0"}, {[]uint32{7, 0}, "7"}, {[]uint32{10}, "10"}, {[]uint32{999999999}, "999999999"}, {[]uint32{1000000000}, "1000000000"}, {[]uint32{0xffffffff}, "4294967295"}, {[]uint32{0, 1}, "4294967296"}, {[]uint32{0xa7640001, 0xde0b6b3}, "1000000000000000001"},
	} {
		if got := nat.Digits(x.l); got != x.want {
			t.Errorf("Digits(%x): %s", x.l, got)
		}
	}
	for _, l := range append(edgeLists(3), mixedLists(60)...) {
		if got := nat.Digits(l); got != toBig(l).String() {
			t.Errorf("Digits(%x): %s", l, got)
		}
	}
	long := nat.Pow(0xffffffff, 1300)
	if got := nat.Digits(long); got != toBig(long).String() {
		t.Error("Digits of a power of 1300 limbs:", got)
	}
}

func TestParse(t *testing.T) {
	for _, s := range []string{"0", "00", "7", "007", "0000000000", "999999999", "1000000000", "0000000001000000000", "4294967295", "4294967296", "18446744073709551616", strings.Repeat("0", 2000), strings.Repeat("9", 1999), strings.Repeat("9", 2000), strings.Repeat("0", 1999) + "1"} {
		got, ok := nat.Parse(s)
		natural, _ := new(big.Int).SetString(s, 10)
		if !ok {
			t.Error("refused:", s)
		}
		want(t, "Parse of "+s, got, natural)
	}
}

func TestParseRefuses(t *testing.T) {
	wrong := []string{"", "-1", "+1", " 1", "1 ", "1.0", "1e3", "1_000", "0x1f", "/", ":", "a", "\x00", "1\x00", "\xff", "\u0663", "\uff11", "12345678/", "123456789:", "999999999999999999x9", strings.Repeat("1", 2001), strings.Repeat("0", 2001), strings.Repeat("1", 1999) + "x", strings.Repeat("1", 2000) + "x", strings.Repeat("7", 100000)}
	for at := range 20 {
		for _, other := range []byte{'/', ':', ' ', 0x80} {
			s := []byte("12345678901234567890")
			s[at] = other
			wrong = append(wrong, string(s))
		}
	}
	for _, s := range wrong {
		if got, ok := nat.Parse(s); ok || len(got) != 0 {
			t.Errorf("Parse(%q): %x, %v", s, got, ok)
		}
	}
}

// checkTrim holds Trim against the zeros that end the digits.
func checkTrim(t *testing.T, l []uint32) {
	t.Helper()
	got, n := nat.Trim(l)
	digits := toBig(l).String()
	head := strings.TrimRight(digits, "0")
	zeros := len(digits) - len(head)
	if head == "" {
		zeros = 0
	}
	natural, _ := new(big.Int).SetString("0"+head, 10)
	want(t, "Trim of "+digits, got, natural)
	if n != zeros {
		t.Fatalf("Trim of %s: %d tens", digits, n)
	}
}

func TestTrim(t *testing.T) {
	for _, l := range [][]uint32{nil, {0}, {0, 0, 0}, {1}, {10}, {1200}, {1200, 0}, {5}, {1 << 31}, {1000000000}, {1000000007}, {2000000000}, {4000000000}, {0, 1}, {1410065408, 2}} {
		checkTrim(t, l)
	}
	for n := range 60 {
		power := nat.Pow(10, n)
		for _, factor := range []uint32{1, 2, 3, 5, 7, 15, 99, 512, 3125, 0xffffffff} {
			checkTrim(t, nat.Mul(power, []uint32{factor}))
		}
		checkTrim(t, nat.Add(power, []uint32{1}))
		checkTrim(t, nat.Mul(power, nat.Pow(2, 300)))
		checkTrim(t, nat.Mul(power, nat.Pow(5, 300)))
	}
	checkTrim(t, nat.Pow(10, 1300))
	for _, l := range append(edgeLists(3), mixedLists(60)...) {
		checkTrim(t, l)
	}
}

// TestUndo: quotient and product undo one another; digits and Parse.
func TestUndo(t *testing.T) {
	lists := append(edgeLists(2), mixedLists(40)...)
	for _, a := range lists {
		for _, b := range lists {
			if toBig(b).Sign() == 0 {
				continue
			}
			if quo, rem := nat.Div(nat.Mul(a, b), b); nat.Cmp(quo, a) != 0 || len(rem) != 0 {
				t.Fatalf("%x times %x divided again: %x, %x", a, b, quo, rem)
			}
			quo, rem := nat.Div(a, b)
			if nat.Cmp(nat.Add(nat.Mul(quo, b), rem), a) != 0 || nat.Cmp(rem, b) >= 0 {
				t.Fatalf("%x by %x: %x, %x", a, b, quo, rem)
			}
		}
		if got, ok := nat.Parse(nat.Digits(a)); !ok || !slices.Equal(got, nat.Norm(a)) {
			t.Fatalf("%x parsed again: %x, %v", a, got, ok)
		}
	}
	for _, s := range []string{"0", "1", "1000000000", "18446744073709551616", strings.Repeat("9", 2000), "1" + strings.Repeat("0", 1999)} {
		l, _ := nat.Parse(s)
		if got := nat.Digits(l); got != s {
			t.Errorf("%s told again: %s", s, got)
		}
	}
}

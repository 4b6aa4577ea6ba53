package arith_test

import (
	"math/big"
	"regexp"
	"strconv"
	"strings"
	"testing"

	"lazarus/arith"
)

// numbers are ordinary ones and the edges.
var numbers = []struct {
	s string
	n int64
}{
	{"0", 0}, {"1", 1}, {"9", 9}, {"10", 10}, {"12", 12}, {"907", 907}, {"1234567890", 1234567890},
	{"-0", 0}, {"-1", -1}, {"-9", -9}, {"-12", -12}, {"-907", -907},
	{"00", 0}, {"-00", 0}, {"007", 7}, {"-007", -7}, {"010", 10}, {"08", 8}, {"000000000000000000000000000000012", 12},
	{"2147483647", 2147483647}, {"2147483648", 2147483648}, {"-2147483648", -2147483648}, {"-2147483649", -2147483649},
	{"4294967295", 4294967295}, {"4294967296", 4294967296},
	{"999999999999999999", 999999999999999999}, {"1000000000000000000", 1000000000000000000},
	{"9223372036854775806", most - 1}, {"9223372036854775807", most},
	{"-9223372036854775807", least + 1}, {"-9223372036854775808", least},
	{"0009223372036854775807", most}, {"-0009223372036854775808", least},
}

// noNumbers are none.
var noNumbers = []string{
	"", "-", "--", "--1", "---1", "+", "+0", "+1", "++1", "-+1", "+-1", "1-", "1+", "-1-", "1-2", "1+2",
	" ", " 1", "1 ", "\t1", "1\t", "1\n", "\n1", "- 1", "1 2", "-1 ", " -1", "1\r", "1\v", "1\u00a0",
	"a", "1a", "a1", "-a", "-1a", "1e3", "1E3", "1.0", ".1", "1.", "1,0", "1_0", "_1", "1_", "0x1", "0X1f", "0b1", "0o7", "0xf", "1f", "inf", "nan", "Inf", "-inf",
	"(1)", "!1", "$1", "'1'", "\"1\"", "1;", "/", ":", "1/", "1:", "/1", ":1", "0/0", "0:0",
	"\x00", "1\x00", "\x001", "1\x002", "\xff", "1\xff", "\xff1", "\xb1", "1\xe2\x82", "\u00e9", "1\u00e9", "\u06631", "1\u0663", "\u0663", "\uff11", "\u22121", "\u00b2", "\ufeff1", "\ufffd", "\U0001d7d9",
	"9223372036854775808", "-9223372036854775809", "9223372036854775810", "9223372036854775817", "-9223372036854775818", "9300000000000000000", "9999999999999999999",
	"10000000000000000000", "-10000000000000000000", "18446744073709551614", "18446744073709551615", "18446744073709551616", "18446744073709551617", "-18446744073709551615", "-18446744073709551616", "-18446744073709551617",
	"36893488147419103233", "99999999999999999999", "92233720368547758070", "100000000000000000000", "340282366920938463463374607431768211456", "340282366920938463463374607431768211457", "-340282366920938463463374607431768211457",
	"9223372036854775807a", "a9223372036854775807", "9223372036854775807-", "99999999999999999999a", "0009223372036854775808", "-0009223372036854775809",
}

func TestNum(t *testing.T) {
	for _, c := range numbers {
		if n, ok := arith.Num(c.s); n != c.n || !ok {
			t.Errorf("Num(%q) = %d, %v", c.s, n, ok)
		}
	}
	for _, s := range noNumbers {
		if n, ok := arith.Num(s); n != 0 || ok {
			t.Errorf("Num(%q) = %d, %v", s, n, ok)
		}
	}
}

func TestNumOfVeryManyDigits(t *testing.T) {
	for _, size := range []int{1, 17, 18, 19, 20, 21, 30, 64, 100, 1 << 10, 1 << 16, 1 << 20} {
		for _, sign := range []string{"", "-"} {
			zeroes := sign + strings.Repeat("0", size)
			for _, end := range []string{"", "7", "9223372036854775807"} {
				want, _ := strconv.ParseInt(sign+"0"+end, 10, 64)
				if n, ok := arith.Num(zeroes + end); n != want || !ok {
					t.Errorf("%d zeroes and %q: %d, %v", size, sign+end, n, ok)
				}
			}
			for _, end := range []string{"9223372036854775809", "a", " ", "-", "\xff"} {
				if n, ok := arith.Num(zeroes + end); n != 0 || ok {
					t.Errorf("%d zeroes and %q: %d, %v", size, sign+end, n, ok)
				}
			}
			for digit := '1'; size > 19 && digit <= '9'; digit++ {
				if n, ok := arith.Num(sign + strings.Repeat(string(digit), size)); n != 0 || ok {
					t.Errorf("%d times %c: %d, %v", size, digit, n, ok)
				}
			}
		}
	}
	for _, s := range []string{strings.Repeat("-", 1<<20), strings.Repeat("-", 1<<20) + "1", strings.Repeat("+", 1<<20), strings.Repeat(" ", 1<<20) + "1", "1" + strings.Repeat(" ", 1<<20), strings.Repeat("\xff", 1<<20)} {
		if n, ok := arith.Num(s); n != 0 || ok {
			t.Errorf("%.10q: %d, %v", s, n, ok)
		}
	}
}

// number is what a number looks like.
var number = regexp.MustCompile(`\A-?[0-9]+\z`)

// modelNum is what Num(s) should be.
func modelNum(s string) (int64, bool) {
	if !number.MatchString(s) {
		return 0, false
	}
	n, _ := new(big.Int).SetString(s, 10)
	if !n.IsInt64() {
		return 0, false
	}
	return n.Int64(), true
}

// checkNum holds Num(s) against the model.
func checkNum(t *testing.T, s string) {
	t.Helper()
	want, is := modelNum(s)
	if n, ok := arith.Num(s); n != want || ok != is {
		t.Errorf("Num(%.60q) = %d, %v; want %d, %v", s, n, ok, want, is)
	}
}

func TestNumOfAnotherLetterAtEachPlace(t *testing.T) {
	for _, s := range []string{"1", "-1", "12", "-907", "1234567890", "9223372036854775807", "-9223372036854775808", "00012"} {
		for at := range len(s) {
			for b := range 256 {
				checkNum(t, s[:at]+string([]byte{byte(b)})+s[at+1:])
				checkNum(t, s[:at]+string([]byte{byte(b)})+s[at:])
			}
			for _, r := range "\u00e9\u0660\u0663\u0669\u06f1\u0967\uff10\uff11\uff19\u2212\u00b9\u2460\u00a0\u2003\ufeff\ufffd\U0001d7ce\U0001d7d9" {
				checkNum(t, s[:at]+string(r)+s[at+1:])
				checkNum(t, s[:at]+string(r)+s[at:])
			}
		}
		for b := range 256 {
			checkNum(t, s+string([]byte{byte(b)}))
		}
	}
}

func TestNumsAroundTheEnds(t *testing.T) {
	ends := []*big.Int{big.NewInt(0), big.NewInt(most), big.NewInt(least)}
	for bits := range 130 {
		n := new(big.Int).Lsh(big.NewInt(1), uint(bits))
		ends = append(ends, n, new(big.Int).Neg(n))
	}
	for ten, n := 0, big.NewInt(1); ten < 40; ten++ {
		n = new(big.Int).Mul(n, big.NewInt(10))
		ends = append(ends, n, new(big.Int).Neg(n))
	}
	for _, end := range ends {
		for beside := int64(-12); beside <= 12; beside++ {
			s := new(big.Int).Add(end, big.NewInt(beside)).String()
			checkNum(t, s)
			checkNum(t, strings.Replace(s, "-", "-00", 1))
			checkNum(t, "0"+s)
			checkNum(t, s+"0")
		}
	}
}

func TestNumOfAllShortTexts(t *testing.T) {
	texts("-+019a _", 5, func(s string) { checkNum(t, s) })
	for a := range 256 {
		checkNum(t, string([]byte{byte(a)}))
		for b := range 256 {
			checkNum(t, string([]byte{byte(a), byte(b)}))
		}
	}
}

// texts calls f with every text of at most size of these letters.
func texts(letters string, size int, f func(s string)) {
	var grow func(s string, left int)
	grow = func(s string, left int) {
		f(s)
		for _, r := range letters {
			if left > 0 {
				grow(s+string(r), left-1)
			}
		}
	}
	grow("", size)
}

package arith_test

import (
	"strings"
	"testing"

	"lazarus/api"
)

func TestTooMuch(t *testing.T) {
	noMath(t, "most+1", "1+most", "most+most", "most - -1", "most-least", "0-least", "1-least", "least-1", "least-most", "least+least", "least+-1", "-1+least", "-most-2", "-2-most", "most+x", "most--x",
		"most*2", "2*most", "most*most", "least*2", "2*least", "least*-1", "-1*least", "least*least", "least*most", "most*least", "most*-2", "-2*most", "least*-2", "least/-1", "least/(0-1)", "least/-!0", "(-most-1)/-1",
		"-least", "-(least)", "- least", "--least", "-(-most-1)", "-(0+least)", "!-least", "!(-least)",
		"4294967296*4294967296", "4294967296*2147483648", "3037000500*3037000500", "-3037000500*3037000500", "4611686018427387904*2", "4611686018427387905*-2", "3074457345618258603*3", "-3074457345618258603*3",
		"9223372036854775808", "-9223372036854775808", "9223372036854775809", "9223372036854775808-1", "0*9223372036854775808", "18446744073709551616", "18446744073709551617", "99999999999999999999", "(9223372036854775808)", "!9223372036854775808", "9223372036854775808<1", "1<9223372036854775808", "9223372036854775808==9223372036854775808", "0009223372036854775808",
		strings.Repeat("9", 1<<16), "1"+strings.Repeat("0", 1<<16), "0*1"+strings.Repeat("0", 1<<16))
	check(t, "most+0", most)
	check(t, "0+most", most)
	check(t, "most+-1", most-1)
	check(t, "most-1", most-1)
	check(t, "most-0", most)
	check(t, "most-most", 0)
	check(t, "most+least", -1)
	check(t, "least+most", -1)
	check(t, "least+0", least)
	check(t, "least-0", least)
	check(t, "least+1", least+1)
	check(t, "least-least", 0)
	check(t, "least--1", least+1)
	check(t, "-1-least", most)
	check(t, "0-most", -most)
	check(t, "-most-1", least)
	check(t, "-1-most", least)
	check(t, "-9223372036854775807-1", least)
	check(t, "9223372036854775806+1", most)
	check(t, "4611686018427387904+4611686018427387903", most)
	check(t, "-4611686018427387904-4611686018427387904", least)
	check(t, "-4611686018427387904+-4611686018427387904", least)
	noMath(t, "4611686018427387904+4611686018427387904", "-4611686018427387904-4611686018427387905")
	check(t, "most*1", most)
	check(t, "1*most", most)
	check(t, "most*-1", -most)
	check(t, "-1*most", -most)
	check(t, "least*1", least)
	check(t, "1*least", least)
	check(t, "least*0", 0)
	check(t, "0*least", 0)
	check(t, "most*0", 0)
	check(t, "0*most", 0)
	check(t, "4611686018427387904*-2", least)
	check(t, "-2*4611686018427387904", least)
	check(t, "-4611686018427387904*2", least)
	check(t, "4294967296*-2147483648", least)
	check(t, "-4294967296*2147483648", least)
	check(t, "-(2147483648)*4294967296", least)
	check(t, "4294967296*2147483647", 9223372032559808512)
	check(t, "3037000499*3037000499", 9223372030926249001)
	check(t, "3037000499*-3037000499", -9223372030926249001)
	check(t, "7*1317624576693539401", most)
	check(t, "1317624576693539401*7", most)
	check(t, "-7*1317624576693539401", -most)
	check(t, "-7*1317624576693539401-1", least)
	check(t, "-most", -most)
	check(t, "--most", most)
	check(t, "-(least+1)", most)
	check(t, "least/1", least)
	check(t, "least/-2", 4611686018427387904)
	check(t, "(least+1)/-1", most)
	check(t, "most/-1", -most)
	check(t, "least%-1", 0)
	check(t, "!least", 0)
	check(t, "!!most", 1)
	check(t, "least==least", 1)
	check(t, "least<most", 1)
	check(t, "most<least", 0)
	check(t, "(least)", least)
}

func TestErrFormAheadOfErrMath(t *testing.T) {
	math := []string{"1/0", "1%0", "s", "most+1", "least-1", "most*2", "(-least)", "!-least", "least/-1", "9223372036854775808", "99999999999999999999999", "0*(1/0)", "!s", "(1/0)", "s+s"}
	noMath(t, math...)
	for _, m := range math {
		for _, no := range []string{"+", "-", "*", "/", "<", "==", ")", "(", ")(", "+)", "+()", "+(", "x", " x", " 1", "=1", "<1<1", "!", "!1", "$", "+abcdefghijklm", "+1x", "\xff", "\x00", "+\u00e9", "&&1", "**1", "?1", ".5", ",1"} {
			// Digits and a name's letters go on behind the number that is none.
			if no != "x" || strings.HasSuffix(m, ")") {
				noForm(t, m+no)
			}
			noForm(t, m+" "+no)
		}
		for _, no := range []string{"+", "*", "/", "<", "==", ")", "(", ")(", "()+", ")+", "x ", "1 ", "1=", "1!", "$", "abcdefghijklm+", "1x+", "\xff", "\x00", "\u00e9+", "1&&", "1**", "+ +", ".5+", ",", "1)+(", "1(1)+"} {
			noForm(t, no+m)
		}
		noForm(t, m+"<1<2", "1<2<("+m+")", "("+m+"", m+"+("+m, "("+m+")("+m+")", m+" "+m, m+"+"+m+")", "*"+m+"+"+m)
		noMath(t, "("+m+")", m+"+1", "1+("+m+")", m+"+"+"("+m+")", "0*("+m+")")
	}
	noForm(t, "1/0 1/0", "s s", "s+", "+s", "1/0+", "(1/0", "1/0)", "most*most*", "s<s<s")
}

// known are all letters that a token may have, and blanks.
const known = " \t\n0123456789abcdefghijklmnopqrstuvwxyzABCDEFGHIJKLMNOPQRSTUVWXYZ_+-*/%!()<>="

func TestLettersThatNoTokenBeginsWith(t *testing.T) {
	var l []string
	for b := range 256 {
		if s := string([]byte{byte(b)}); !strings.Contains(known, s) {
			l = append(l, s)
		}
	}
	for r := rune(128); r < 0x3000; r++ {
		l = append(l, string(r))
	}
	for _, r := range "\ufeff\ufffd\uffff\uff11\uff21\uff0b\U00010000\U0001f600\U0010ffff" {
		l = append(l, string(r))
	}
	l = append(l, "\xe2\x82", "\xf0\x9f\x98", "\xed\xa0\x80", "\xc0\xaf", "\xc0\x80", "\xf4\x90\x80\x80", "\xc3(", "\xc1\xb8", " =", "= =")
	for _, s := range l {
		noForm(t, s, s+"1", "1"+s, "1"+s+"1", "1 "+s+" 1", "x"+s, s+"x", "1+"+s, s+"+1", "1+"+s+"1", "("+s+")", "1+1"+s, "-"+s, "!"+s, "1<"+s+"2", "1/0"+s, s+" ", " "+s)
	}
}

func TestTheEmptyText(t *testing.T) {
	noForm(t, "")
	checkNone(t, api.ErrForm, "", " ", "\n", "\t", strings.Repeat(" \t\n", 1<<16))
}

func TestTwoInARow(t *testing.T) {
	for _, a := range []string{"1", "x", "(1)", "1+2", "-1", "s", "nothing", "1<2"} {
		for _, b := range []string{"1", "x", "(1)", "!1", "s", "nothing"} {
			noForm(t, a+" "+b, a+"\n"+b, "("+a+" "+b+")", "1+("+a+" "+b+")", a+" "+b+" "+a)
		}
	}
	noForm(t, "1=2", "x=1", "x = 1", "1+=2", "x++", "++x+", "x**2", "1?2:3", "1,2", "1&2", "1|2", "1^2", "~1", "1&&2", "1||2", "$x", "${x}", "'1'", "\"x\"", "1;", "1.5", ".5", "1:", "@", "#", "a[1]", "1<<2", "`1`")
}

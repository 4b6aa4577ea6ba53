package lex_test

import (
	"strings"
	"testing"

	"lazarus/api"
	"lazarus/lex"
)

// allSigns are all of them, in the chapter's order; metas are all meta letters.
var allSigns = []string{"&&", "||", ";;", ";", "|", "(", ")", ">>", ">", "<", "\n"}

const metas = " \t\n;&|()<>'\"$\\"

// letters are plain ones of one to four bytes, and such as only look like others.
var letters = []string{"a", "Z", "_", "0", "9", "%", "*", "?", "[", "]", "!", "=", "~", "^", ",", "/", ".", "`", "@", ":", "-", "+", "#", "{", "\r", "\v", "\f", "\x01", "\x7f", "\u00a0", "\u00e9", "\u2028", "\u20ac", "\uff04", "\ufeff", "\ufffd", "\uffff", "\U0001f600", "\U0010ffff"}

// deep is x within n braces.
func deep(n int, x string) string {
	return strings.Repeat("${a:-", n) + x + strings.Repeat("}", n)
}

// deepParts is what deep is, of what x is.
func deepParts(n int, x ...api.Part) []api.Part {
	for range n {
		x = []api.Part{param("a", ":-", x...)}
	}
	return x
}

// check holds the tokens of a text against what they should be.
func check(t *testing.T, s string, want ...api.Token) {
	t.Helper()
	l, at, e := lex.Tokens(s)
	if e != api.OK || at != len(s) || !same(l, want) {
		t.Errorf("Tokens(%.200q) = %+v, %d, %v, want %+v, %d", s, l, at, e, want, len(s))
	}
}

// checkWord holds a text that is one word against its parts.
func checkWord(t *testing.T, s string, want ...api.Part) {
	t.Helper()
	check(t, s, word(0, want...), fin(len(s)))
}

// checkErr holds a text that has an error against that.
func checkErr(t *testing.T, s string, at int, want api.Errno) {
	t.Helper()
	l, gotAt, e := lex.Tokens(s)
	if l != nil || gotAt != at || e != want {
		t.Errorf("Tokens(%.200q) = %+v, %d, %v, want none, %d, %v", s, l, gotAt, e, at, want)
	}
}

// checkByModel holds all that is answered of a text against what the model says.
func checkByModel(t *testing.T, s string) {
	t.Helper()
	want, at, e := model(s)
	l, gotAt, got := lex.Tokens(s)
	if got != e || gotAt != at || !same(l, want) {
		t.Errorf("Tokens(%.200q) = %+v, %d, %v, want %+v, %d, %v", s, l, gotAt, got, want, at, e)
	}
}

func TestExampleOfTheChapter(t *testing.T) {
	check(t, `a"$b"`, word(0, lit("a"), in(param("b", ""))), fin(5))
}

func TestOrdinaryTexts(t *testing.T) {
	check(t, "echo a b", word(0, lit("echo")), word(5, lit("a")), word(7, lit("b")), fin(8))
	check(t, "a;b&&c", word(0, lit("a")), sign(1, ";"), word(2, lit("b")), sign(3, "&&"), word(5, lit("c")), fin(6))
	check(t, "x=1 # one\n", word(0, lit("x=1")), sign(9, "\n"), fin(10))
	check(t, `if [ "$a" = 'b c' ]; then echo >>f; fi`,
		word(0, lit("if")), word(3, lit("[")), word(5, in(param("a", ""))), word(10, lit("=")), word(12, quoted("b c")), word(18, lit("]")),
		sign(19, ";"), word(21, lit("then")), word(26, lit("echo")), sign(31, ">>"), word(33, lit("f")), sign(34, ";"), word(36, lit("fi")), fin(38))
	check(t, "for i in *.c $@; do (cat <$i | x=$((i + 1))) ; done",
		word(0, lit("for")), word(4, lit("i")), word(6, lit("in")), word(9, lit("*.c")), word(13, param("@", "")), sign(15, ";"), word(17, lit("do")),
		sign(20, "("), word(21, lit("cat")), sign(25, "<"), word(26, param("i", "")), sign(29, "|"), word(31, lit("x="), arith("i + 1")), sign(43, ")"),
		sign(45, ";"), word(47, lit("done")), fin(51))
	check(t, "{ ! f ()\n}", word(0, lit("{")), word(2, lit("!")), word(4, lit("f")), sign(6, "("), sign(7, ")"), sign(8, "\n"), word(9, lit("}")), fin(10))
	check(t, `case ${x:=a\ b} in "y"*) ;; esac`,
		word(0, lit("case")), word(5, param("x", ":=", lit("a"), quoted(" "), lit("b"))), word(16, lit("in")), word(19, quoted("y"), lit("*")),
		sign(23, ")"), sign(25, ";;"), word(28, lit("esac")), fin(32))
}

func TestTextsWithoutWords(t *testing.T) {
	check(t, "", fin(0))
	check(t, " ", fin(1))
	check(t, "\t", fin(1))
	check(t, " \t \t\t  ", fin(7))
	check(t, "\n", sign(0, "\n"), fin(1))
	check(t, "\n\n\n", sign(0, "\n"), sign(1, "\n"), sign(2, "\n"), fin(3))
	check(t, " \n\t\n ", sign(1, "\n"), sign(3, "\n"), fin(5))
}

func TestTextsOfEachLength(t *testing.T) {
	if api.MaxText != 2000 {
		t.Fatalf("MaxText is %d", api.MaxText)
	}
	check(t, strings.Repeat(" ", 2000), fin(2000))
	check(t, "#"+strings.Repeat("'", 1999), fin(2000))
	checkWord(t, strings.Repeat("a", 2000), lit(strings.Repeat("a", 2000)))
	checkWord(t, strings.Repeat("\u00e9", 1000), lit(strings.Repeat("\u00e9", 1000)))
	checkWord(t, strings.Repeat("\U0001f600", 500), lit(strings.Repeat("\U0001f600", 500)))
	checkWord(t, strings.Repeat(`\a`, 1000), quoted(strings.Repeat("a", 1000)))
	checkWord(t, strings.Repeat("$", 2000), quoted(strings.Repeat("$", 2000)))
	checkWord(t, strings.Repeat("''", 1000), quoted(""))
	checkWord(t, `"`+strings.Repeat("b", 1998)+`"`, quoted(strings.Repeat("b", 1998)))
	checkWord(t, "$(("+strings.Repeat("(", 997)+strings.Repeat(")", 997)+"))", arith(strings.Repeat("(", 997)+strings.Repeat(")", 997)))
	var want []api.Token
	for i := range 2000 {
		want = append(want, sign(i, "\n"))
	}
	check(t, strings.Repeat("\n", 2000), append(want, fin(2000))...)
	for _, c := range []string{" ", "\n", "a", "&", ";", "'", "\\", "$", "(", "#", "\x00", "\xff", "${a:-"} {
		for _, size := range []int{2001, 2002, 4000, 4096, 1 << 16, 1<<16 + 1} {
			checkErr(t, strings.Repeat(c, size)[:size], 0, api.ErrLimit)
		}
	}
	// It is the bytes that count, not the letters.
	checkErr(t, strings.Repeat("\u00e9", 1000)+"a", 0, api.ErrLimit)
	checkErr(t, strings.Repeat("\U0001f600", 501), 0, api.ErrLimit)
}

func TestNoTexts(t *testing.T) {
	for _, bad := range []string{"\x00", "\xff", "\x80", "\xc3", "\xe2\x82", "\xf0\x9f\x98", "\xc0\x80", "\xed\xa0\x80", "\xf4\x90\x80\x80"} {
		for _, ahead := range []string{
			"", "a", "ab ", "\u00e9", "\u20ac ", "\U0001f600\n", "\ufffd", "'a", "'\u00e9\ufffd", "\"a b", "\"${a:-", "${", "${a:-", "$((", "$((1+", "a\\", "# ", "a #b\n#", " \t", ";;",
			// An error of another kind ahead of it is not told, nor is one behind it.
			"& ", "a &b ", "$abcdefghijklm ", "${} ", "${0} ", "$((;)) ", deep(api.MaxDepth+1, "x"), deep(api.MaxDepth+1, "x") + " ", "'", "\"", "\\",
		} {
			for _, behind := range []string{"", "a", "'", "\"", "}", "))", " &", "\n", "\x00", "\xff", " '", "\\"} {
				checkErr(t, ahead+bad+behind, len(ahead), api.ErrForm)
			}
		}
	}
	checkErr(t, "a\x00", 1, api.ErrForm)
	checkErr(t, strings.Repeat("a", 1999)+"\x00", 1999, api.ErrForm)
	checkErr(t, strings.Repeat("a", 2000)+"\x00", 0, api.ErrLimit)
	checkErr(t, "\xff"+strings.Repeat("a", 2000), 0, api.ErrLimit)
}

func TestEachSign(t *testing.T) {
	for _, s := range allSigns {
		check(t, s, sign(0, s), fin(len(s)))
		check(t, " "+s+"\t", sign(1, s), fin(len(s)+2))
		check(t, "a"+s+"b", word(0, lit("a")), sign(1, s), word(len(s)+1, lit("b")), fin(len(s)+2))
		check(t, "'a'"+s+"\"b\"", word(0, quoted("a")), sign(3, s), word(len(s)+3, quoted("b")), fin(len(s)+6))
		check(t, "a "+s+" b", word(0, lit("a")), sign(2, s), word(len(s)+3, lit("b")), fin(len(s)+4))
	}
}

func TestSignsSideBySide(t *testing.T) {
	for _, one := range allSigns {
		for _, other := range allSigns {
			s := one + other
			switch s {
			case ";;", "||", ">>":
				check(t, s, sign(0, s), fin(2))
			case ";;;", "|||", ">>>":
				check(t, s, sign(0, s[:2]), sign(2, s[2:]), fin(3))
			default:
				check(t, s, sign(0, one), sign(len(one), other), fin(len(s)))
			}
			check(t, one+" "+other, sign(0, one), sign(len(one)+1, other), fin(len(s)+1))
		}
	}
}

func TestRowsOfLikeSigns(t *testing.T) {
	for _, c := range []string{";", "|", ">"} {
		two := c + c
		check(t, two+c, sign(0, two), sign(2, c), fin(3))
		check(t, two+two, sign(0, two), sign(2, two), fin(4))
		check(t, two+two+c, sign(0, two), sign(2, two), sign(4, c), fin(5))
	}
	for _, c := range []string{"(", ")", "<", "\n"} {
		check(t, c+c, sign(0, c), sign(1, c), fin(2))
		check(t, c+c+c, sign(0, c), sign(1, c), sign(2, c), fin(3))
		check(t, c+c+c+c, sign(0, c), sign(1, c), sign(2, c), sign(3, c), fin(4))
	}
	check(t, "&&&&", sign(0, "&&"), sign(2, "&&"), fin(4))
	checkErr(t, "&&&", 2, api.ErrForm)
	checkErr(t, "&&&&&", 4, api.ErrForm)
	check(t, ";;;&&&&|||", sign(0, ";;"), sign(2, ";"), sign(3, "&&"), sign(5, "&&"), sign(7, "||"), sign(9, "|"), fin(10))
}

func TestRemarks(t *testing.T) {
	check(t, "#", fin(1))
	check(t, "# a 'b \"c $( ${ & ;; \\", fin(22))
	check(t, "#a\n", sign(2, "\n"), fin(3))
	check(t, "#a\n#b\nc", sign(2, "\n"), sign(5, "\n"), word(6, lit("c")), fin(7))
	check(t, " \t# a", fin(5))
	check(t, "a #b", word(0, lit("a")), fin(4))
	check(t, "a\t#b\nc", word(0, lit("a")), sign(4, "\n"), word(5, lit("c")), fin(6))
	check(t, "#\u00e9\U0001f600\nd", sign(7, "\n"), word(8, lit("d")), fin(9))
	check(t, "## #\n##", sign(4, "\n"), fin(7))
	check(t, "# a\\\nb", sign(4, "\n"), word(5, lit("b")), fin(6))
	check(t, "# '\n'#'", sign(3, "\n"), word(4, quoted("#")), fin(7))
	for _, s := range allSigns {
		check(t, s+"#a", sign(0, s), fin(len(s)+2))
		check(t, s+" #a\nb", sign(0, s), sign(len(s)+3, "\n"), word(len(s)+4, lit("b")), fin(len(s)+5))
	}
}

func TestNoRemarkWithinAWord(t *testing.T) {
	checkWord(t, "a#b", lit("a#b"))
	checkWord(t, "a#", lit("a#"))
	checkWord(t, "a##b#", lit("a##b#"))
	checkWord(t, "\u00e9#", lit("\u00e9#"))
	checkWord(t, "''#a", quoted(""), lit("#a"))
	checkWord(t, "\"\"#a", quoted(""), lit("#a"))
	checkWord(t, "\\##", quoted("#"), lit("#"))
	checkWord(t, "\\\n#a", quoted("\n"), lit("#a"))
	checkWord(t, "$a#b", param("a", ""), lit("#b"))
	checkWord(t, "$1#", param("1", ""), lit("#"))
	checkWord(t, "$##", param("#", ""), lit("#"))
	checkWord(t, "$((1))#", arith("1"), lit("#"))
	checkWord(t, "${a}#", param("a", ""), lit("#"))
	checkWord(t, "\"#\"", quoted("#"))
	checkWord(t, "\" #\"", quoted(" #"))
	checkWord(t, "'#'#", quoted("#"), lit("#"))
	checkWord(t, "${a:-#}", param("a", ":-", lit("#")))
	checkWord(t, "${a:- #b}", param("a", ":-", lit(" #b")))
	checkWord(t, "${a:-\n#b}", param("a", ":-", lit("\n#b")))
}

func TestWhereTokensBegin(t *testing.T) {
	for _, c := range []string{"a", "\u00e9", "\u20ac", "\U0001f600", "\ufffd"} {
		n := len(c)
		check(t, c+" "+c+";"+c+"&&"+c, word(0, lit(c)), word(n+1, lit(c)), sign(2*n+1, ";"), word(2*n+2, lit(c)), sign(3*n+2, "&&"), word(3*n+4, lit(c)), fin(4*n+4))
		check(t, "'"+c+"'\t\""+c+"\"|", word(0, quoted(c)), word(n+3, quoted(c)), sign(2*n+5, "|"), fin(2*n+6))
		check(t, "\\"+c+">${a:-"+c+"} #"+c, word(0, quoted(c)), sign(n+1, ">"), word(n+2, param("a", ":-", lit(c))), fin(3*n+10))
		check(t, "#"+c+"\n"+c, sign(n+1, "\n"), word(n+2, lit(c)), fin(2*n+2))
		check(t, "${a:-"+c+"\n"+c+"}"+c+"\n", word(0, param("a", ":-", lit(c+"\n"+c)), lit(c)), sign(3*n+7, "\n"), fin(3*n+8))
		checkErr(t, c+" "+c+"&", 2*n+1, api.ErrForm)
		checkErr(t, c+";"+c+"'", n+1, api.ErrForm)
		checkErr(t, c+";;\t"+c+deep(api.MaxDepth+1, "x"), n+3, api.ErrLimit)
	}
}

func TestTheEndStandsBehindAll(t *testing.T) {
	for _, s := range []string{"", " ", "\t ", "#", " # a", "#\u00e9", " #\U0001f600 "} {
		check(t, s, fin(len(s)))
		check(t, "b;"+s, word(0, lit("b")), sign(1, ";"), fin(len(s)+2))
		check(t, "\u20ac|"+s, word(0, lit("\u20ac")), sign(3, "|"), fin(len(s)+4))
	}
}

func TestLettersBetweenLetters(t *testing.T) {
	for i := 1; i < 128; i++ {
		c := string(rune(i))
		s := "a" + c + "b"
		switch {
		case strings.Contains("&'\"$\\", c):
			// These are told elsewhere.
		case c == " " || c == "\t":
			check(t, s, word(0, lit("a")), word(2, lit("b")), fin(3))
		case strings.Contains(metas, c):
			check(t, s, word(0, lit("a")), sign(1, c), word(2, lit("b")), fin(3))
		default:
			checkWord(t, s, lit(s))
		}
	}
}

package lex_test

import (
	"slices"
	"strings"
	"testing"

	"lazarus/api"
)

// piece is a text as it may stand in a word, and its parts.
type piece struct {
	s    string
	want []api.Part
}

// outside are such as may stand out of quotes, beside any other one.
var outside = []piece{
	{"p", []api.Part{lit("p")}},
	{"\u00e9", []api.Part{lit("\u00e9")}},
	{"{", []api.Part{lit("{")}},
	{"\\z", []api.Part{quoted("z")}},
	{"\\ ", []api.Part{quoted(" ")}},
	{"\\}", []api.Part{quoted("}")}},
	{"'x y'", []api.Part{quoted("x y")}},
	{"''", []api.Part{quoted("")}},
	{"\"y\"", []api.Part{quoted("y")}},
	{"\"\"", []api.Part{quoted("")}},
	{"\"$b\"", []api.Part{in(param("b", ""))}},
	{"\"$((2))\"", []api.Part{in(arith("2"))}},
	{"\"$\"", []api.Part{quoted("$")}},
	{"\"c${d:-e}f\"", []api.Part{quoted("c"), in(param("d", ":-", lit("e"))), quoted("f")}},
	{"$1", []api.Part{param("1", "")}},
	{"$@", []api.Part{param("@", "")}},
	{"$#", []api.Part{param("#", "")}},
	{"$?", []api.Part{param("?", "")}},
	{"${n}", []api.Part{param("n", "")}},
	{"${#n}", []api.Part{param("n", "#")}},
	{"${n:-}", []api.Part{param("n", ":-")}},
	{"${n:=w}", []api.Part{param("n", ":=", lit("w"))}},
	{"${n:+'w'}", []api.Part{param("n", ":+", quoted("w"))}},
	{"$((1))", []api.Part{arith("1")}},
}

// inside are such as may stand within double quotes, beside any other one.
var inside = []piece{
	{"p", []api.Part{quoted("p")}},
	{" ", []api.Part{quoted(" ")}},
	{"\n", []api.Part{quoted("\n")}},
	{";&|()<>#", []api.Part{quoted(";&|()<>#")}},
	{"'", []api.Part{quoted("'")}},
	{"}", []api.Part{quoted("}")}},
	{"\u20ac", []api.Part{quoted("\u20ac")}},
	{"\\\"", []api.Part{quoted("\"")}},
	{"\\$", []api.Part{quoted("$")}},
	{"\\\\", []api.Part{quoted("\\")}},
	{"\\'", []api.Part{quoted("\\'")}},
	{"\\b", []api.Part{quoted("\\b")}},
	{"\\\n", []api.Part{quoted("\\\n")}},
	{"$1", []api.Part{in(param("1", ""))}},
	{"$@", []api.Part{in(param("@", ""))}},
	{"$#", []api.Part{in(param("#", ""))}},
	{"$?", []api.Part{in(param("?", ""))}},
	{"${n}", []api.Part{in(param("n", ""))}},
	{"${#n}", []api.Part{in(param("n", "#"))}},
	{"${n:-w}", []api.Part{in(param("n", ":-", lit("w")))}},
	{"${n:=\"w\"}", []api.Part{in(param("n", ":=", quoted("w")))}},
	{"${n:+$m}", []api.Part{in(param("n", ":+", param("m", "")))}},
	{"$((1))", []api.Part{in(arith("1"))}},
}

// checkEverywhere holds a text that stands out of quotes against its parts: alone, and within braces.
func checkEverywhere(t *testing.T, s string, want ...api.Part) {
	t.Helper()
	checkWord(t, s, want...)
	checkWord(t, "${v:-"+s+"}", param("v", ":-", want...))
	checkWord(t, "\"${v:+"+s+"}\"", in(param("v", ":+", want...)))
	checkWord(t, "a${v:=${w:-"+s+"}}b", lit("a"), param("v", ":=", param("w", ":-", want...)), lit("b"))
}

// quote is parts as they are within double quotes.
func quote(l ...api.Part) []api.Part {
	l = slices.Clone(l)
	for i := range l {
		l[i].Quoted = true
	}
	return join(l)
}

// checkBoth holds a text that means the same in and out of double quotes against its parts, beside others.
func checkBoth(t *testing.T, s string, want ...api.Part) {
	t.Helper()
	checkEverywhere(t, s, want...)
	checkEverywhere(t, "'x'"+s, join([]api.Part{quoted("x")}, want)...)
	checkEverywhere(t, s+"'x'", join(want, []api.Part{quoted("x")})...)
	checkEverywhere(t, "\""+s+"\"", quote(want...)...)
	checkEverywhere(t, "\"x"+s+" y\"", join([]api.Part{quoted("x")}, quote(want...), []api.Part{quoted(" y")})...)
}

func TestPlainLetters(t *testing.T) {
	for _, one := range letters {
		for _, other := range letters {
			if one != "#" {
				checkWord(t, one, lit(one))
				checkWord(t, one+other, lit(one+other))
				checkWord(t, one+other+one, lit(one+other+one))
			}
			checkWord(t, "'"+one+other+"'", quoted(one+other))
			checkWord(t, "\""+one+other+"\"", quoted(one+other))
			checkWord(t, "${a:-"+one+other+"}", param("a", ":-", lit(one+other)))
		}
	}
	checkWord(t, "a}b{c!", lit("a}b{c!"))
	checkWord(t, "}", lit("}"))
	checkWord(t, "a=b*?[x]", lit("a=b*?[x]"))
}

func TestPartsSideBySide(t *testing.T) {
	for _, a := range outside {
		checkEverywhere(t, a.s, a.want...)
		for _, b := range outside {
			checkEverywhere(t, a.s+b.s, join(a.want, b.want)...)
			for _, c := range outside {
				checkWord(t, a.s+b.s+c.s, join(a.want, b.want, c.want)...)
			}
		}
	}
}

func TestPartsSideBySideInQuotes(t *testing.T) {
	for _, a := range inside {
		checkEverywhere(t, "\""+a.s+"\"", a.want...)
		for _, b := range inside {
			checkEverywhere(t, "\""+a.s+b.s+"\"", join(a.want, b.want)...)
			checkEverywhere(t, "\""+a.s+"\"\""+b.s+"\"", join(a.want, b.want)...)
			for _, c := range inside {
				checkWord(t, "\""+a.s+b.s+c.s+"\"", join(a.want, b.want, c.want)...)
			}
		}
		for _, b := range outside {
			checkEverywhere(t, "\""+a.s+"\""+b.s, join(a.want, b.want)...)
			checkEverywhere(t, b.s+"\""+a.s+"\"", join(b.want, a.want)...)
		}
	}
}

func TestLitsThatAreOne(t *testing.T) {
	checkWord(t, "\"a\"'b'\\c", quoted("abc"))
	checkWord(t, "\\a\\b", quoted("ab"))
	checkWord(t, "$$", quoted("$$"))
	checkWord(t, "$'a'", quoted("$a"))
	checkWord(t, "$\"a\"", quoted("$a"))
	checkWord(t, "$\\a", quoted("$a"))
	checkWord(t, "\"a$\"$", quoted("a$$"))
	checkWord(t, "\"a$ b\"", quoted("a$ b"))
}

func TestLitsThatAreNotOne(t *testing.T) {
	checkWord(t, "a'b'c", lit("a"), quoted("b"), lit("c"))
	checkWord(t, "a\\ b\\\nc", lit("a"), quoted(" "), lit("b"), quoted("\n"), lit("c"))
	checkWord(t, "$0a", quoted("$"), lit("0a"))
	checkWord(t, "a$1b", lit("a"), param("1", ""), lit("b"))
	checkWord(t, "a''b", lit("a"), quoted(""), lit("b"))
	checkWord(t, "'a'$1'b'", quoted("a"), param("1", ""), quoted("b"))
	checkWord(t, "\"a$1b\"", quoted("a"), in(param("1", "")), quoted("b"))
	checkWord(t, "$a$b", param("a", ""), param("b", ""))
	checkWord(t, "$((1))$((2))", arith("1"), arith("2"))
	// One within braces is not beside those around.
	checkWord(t, "a${b:-c}d", lit("a"), param("b", ":-", lit("c")), lit("d"))
	checkWord(t, "'a'${b:-'c'}'d'", quoted("a"), param("b", ":-", quoted("c")), quoted("d"))
	// Nor are those of two words.
	check(t, "a 'b'\t\\c", word(0, lit("a")), word(2, quoted("b")), word(6, quoted("c")), fin(8))
}

func TestEmptyQuotes(t *testing.T) {
	for _, s := range []string{"''", "\"\"", "''''", "\"\"\"\"", "''\"\"", "\"\"''", "''\"\"''"} {
		n := len(s)
		checkEverywhere(t, s, quoted(""))
		checkEverywhere(t, s+"'x'", quoted("x"))
		checkEverywhere(t, "\\x"+s, quoted("x"))
		checkEverywhere(t, s+"a", quoted(""), lit("a"))
		checkEverywhere(t, "a"+s, lit("a"), quoted(""))
		checkEverywhere(t, "a"+s+"b", lit("a"), quoted(""), lit("b"))
		checkEverywhere(t, s+"$1"+s, quoted(""), param("1", ""), quoted(""))
		checkEverywhere(t, s+"\"$1\""+s, quoted(""), in(param("1", "")), quoted(""))
		checkEverywhere(t, "$((1))"+s, arith("1"), quoted(""))
		check(t, s+" "+s+";"+s, word(0, quoted("")), word(n+1, quoted("")), sign(2*n+1, ";"), word(2*n+2, quoted("")), fin(3*n+2))
	}
	// Quotes that have something within add nothing.
	checkWord(t, "\"$a\"", in(param("a", "")))
	checkWord(t, "\"${a:-}\"", in(param("a", ":-")))
	checkWord(t, "\"$(())\"", in(arith("")))
}

func TestSingleQuotes(t *testing.T) {
	for _, s := range []string{" ", "\t", "\n", ";", "&", "|", "(", ")", "<", ">", "\"", "$", "\\", "}", "#", "a b", "\\\\", "$a", "${", "${a}", "$((", "\"a", "a\nb", "\u00e9 \U0001f600"} {
		checkEverywhere(t, "'"+s+"'", quoted(s))
		checkEverywhere(t, "'"+s+"'b", quoted(s), lit("b"))
		checkEverywhere(t, "'"+s+"''"+s+"'", quoted(s+s))
	}
}

func TestBackslash(t *testing.T) {
	all := append(slices.Clone(letters), strings.Split(metas, "")...)
	for i := 1; i < 128; i++ {
		all = append(all, string(rune(i)))
	}
	for _, c := range all {
		checkEverywhere(t, "\\"+c, quoted(c))
		checkEverywhere(t, "a\\"+c+"b", lit("a"), quoted(c), lit("b"))
		checkEverywhere(t, "\\"+c+"\\"+c, quoted(c+c))
		checkEverywhere(t, "'a'\\"+c+"\"b\"", quoted("a"+c+"b"))
		both := "\\" + c
		if strings.Contains("\"$\\", c) {
			both = c
		}
		checkEverywhere(t, "\"\\"+c+"\"", quoted(both))
		checkEverywhere(t, "\"a\\"+c+"b\"", quoted("a"+both+"b"))
		checkEverywhere(t, "\"\\"+c+"\\"+c+"\"", quoted(both+both))
		checkEverywhere(t, "\"$1\\"+c+"$1\"", in(param("1", "")), quoted(both), in(param("1", "")))
	}
	checkWord(t, "\"a\\\"\\$\\\\\\b'\"", quoted("a\"$\\\\b'"))
	checkWord(t, "\\\\\\\\", quoted("\\\\"))
	checkWord(t, "\\$a", quoted("$"), lit("a"))
	checkWord(t, "\"\\$a\"", quoted("$a"))
	checkWord(t, "\\${a}", quoted("$"), lit("{a}"))
	checkWord(t, "\"\\${a}\"", quoted("${a}"))
	check(t, "\\' \\'", word(0, quoted("'")), word(3, quoted("'")), fin(5))
}

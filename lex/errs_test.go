package lex_test

import (
	"strings"
	"testing"

	"lazarus/api"
	"lazarus/lex"
)

// checkErrEverywhere holds a text with ErrForm in its first word against that: alone, behind others, within braces and quotes.
func checkErrEverywhere(t *testing.T, s string) {
	t.Helper()
	checkErr(t, s, 0, api.ErrForm)
	checkErr(t, "ab "+s, 3, api.ErrForm)
	checkErr(t, "\u00e9;\n"+s, 4, api.ErrForm)
	checkErr(t, "a''$1"+s, 0, api.ErrForm)
	checkErr(t, "# a\n "+s, 5, api.ErrForm)
	checkErr(t, "c |\"x\""+s, 3, api.ErrForm)
	checkErr(t, "${v:-"+s+"}", 0, api.ErrForm)
	checkErr(t, "a ${v:+b"+s+"}", 2, api.ErrForm)
	checkErr(t, "a \"b"+s+"\"", 2, api.ErrForm)
	checkErr(t, "a \"${v:-"+s+"}\"", 2, api.ErrForm)
}

func TestSingleAnd(t *testing.T) {
	for _, ahead := range []string{"", " ", "a", "a ", "\u00e9", "''", "$a", "$", "${a:-&}", "$((1))", "&&", ";", "\n", "a\\&", "# &\n", "'&'", "\"&\""} {
		for _, behind := range []string{"", " ", "a", " &", " &&", ";", "|", "\n", ">", "#", "'", "\"", "\\", "\\&", "$", "${", "(", ")", "\u00e9"} {
			checkErr(t, ahead+"&"+behind, len(ahead), api.ErrForm)
		}
	}
}

func TestQuotesThatDoNotEnd(t *testing.T) {
	for _, ahead := range []string{"", "a", "'b'", "\"b\"", "\\'", "\\\"", "$a", "${a}", "$((1))"} {
		for _, s := range []string{
			"'", "'a", "' ", "'\n", "'a b;", "'\"", "'\\", "'${", "'#", "'\u00e9",
			"\"", "\"a", "\" ", "\"\n", "\"'", "\"''", "\"\\\"", "\"\\\\\\\"", "\"a\\\"b", "\"$", "\"$a", "\"${a}", "\"$((1))", "\"#", "\"\u00e9", "\"a\"\"", "\"a\"'", "''\"", "\"\"'", "'''", "\"\"\"",
		} {
			checkErr(t, ahead+s, 0, api.ErrForm)
			checkErr(t, "x "+ahead+s, 2, api.ErrForm)
			checkErr(t, "${v:-"+ahead+s, 0, api.ErrForm)
		}
	}
	// The end of braces is none of quotes that stand in them, nor the other way round.
	checkErr(t, "${a:-'b}", 0, api.ErrForm)
	checkErr(t, "${a:-\"b}", 0, api.ErrForm)
	checkErr(t, "\"${a:-b\"", 0, api.ErrForm)
	checkErr(t, "\"${a:-b\"}", 0, api.ErrForm)
	checkErr(t, "\"${a:-'b\"}'", 0, api.ErrForm)
	checkErr(t, "\"${a\"}\"", 0, api.ErrForm)
}

func TestBackslashAtTheEnd(t *testing.T) {
	for _, ahead := range []string{"", "ab", "\u00e9", "''", "\\\\", "$", "$a", "${a}", "$((1))", "\"b\"", "\\\n"} {
		checkErr(t, ahead+"\\", 0, api.ErrForm)
		checkErr(t, "x;"+ahead+"\\", 2, api.ErrForm)
		checkErr(t, "\""+strings.Trim(ahead, "\"")+"\\", 0, api.ErrForm)
		checkErr(t, "${v:-"+ahead+"\\", 0, api.ErrForm)
		checkErr(t, "\"${v:-"+ahead+"\\", 0, api.ErrForm)
		checkErr(t, "\"${v:-\"\\", 0, api.ErrForm)
	}
	checkErr(t, "a \\", 2, api.ErrForm)
	checkErr(t, "\\\\\\", 0, api.ErrForm)
	checkErr(t, "\"a\\\"", 0, api.ErrForm)
}

func TestBracesThatDoNotEnd(t *testing.T) {
	for _, s := range []string{"${", "${a", "${1", "${#", "${@", "${?", "${#a", "${ ", "${a ", "${a:", "${a:-", "${a:=", "${a:+", "${a:-b", "${a:-b c", "${a:-b\n", "${a:-{", "${a:-${b}", "${a:-${b:-c}", "${a:-\\}", "${a:-'}'", "${a:-\"}\"", "${a:-$", "${a:-$b", "${a:-$((1))", "${a:-;", "${a:-#", "${#:-b", "${1:+b", "${0", "${\u00e9", "${${", "${\"", "${'", "${\\"} {
		checkErr(t, s, 0, api.ErrForm)
		checkErr(t, "x "+s, 2, api.ErrForm)
		checkErr(t, "x'y'"+s, 0, api.ErrForm)
		checkErr(t, "\""+s, 0, api.ErrForm)
		checkErr(t, "${v:-"+s, 0, api.ErrForm)
	}
	for n := range 20 {
		checkErr(t, strings.Repeat("${a:-", n+1), 0, api.ErrForm)
		checkErr(t, strings.Repeat("${a:-", n+1)+strings.Repeat("}", n), 0, api.ErrForm)
	}
}

func TestLongNames(t *testing.T) {
	if api.MaxName != 12 {
		t.Fatalf("MaxName is %d", api.MaxName)
	}
	for _, c := range []string{"a", "Z", "_"} {
		for size := 1; size <= 100; size++ {
			s := strings.Repeat(c, size)
			if size <= 12 {
				checkBoth(t, "$"+s, param(s, ""))
				checkBoth(t, "${"+s+"}", param(s, ""))
				checkBoth(t, "${#"+s+"}", param(s, "#"))
				checkBoth(t, "${"+s+":-b}", param(s, ":-", lit("b")))
				checkBoth(t, "${"+s+":=b}", param(s, ":=", lit("b")))
				checkBoth(t, "${"+s+":+b}", param(s, ":+", lit("b")))
				checkWord(t, s, lit(s))
				continue
			}
			checkErrEverywhere(t, "$"+s)
			checkErrEverywhere(t, "$"+s+"-")
			checkErrEverywhere(t, "${"+s+"}")
			checkErrEverywhere(t, "${#"+s+"}")
			checkErrEverywhere(t, "${"+s+":-b}")
			checkErrEverywhere(t, "${"+s+":=b}")
			checkErrEverywhere(t, "${"+s+":+b}")
			// Where no dollar stands ahead it is no name yet.
			checkWord(t, s+"=b", lit(s+"=b"))
			checkWord(t, "$1"+s, param("1", ""), lit(s))
			checkBoth(t, "$(("+s+"))", arith(s))
			checkWord(t, "\\$"+s, quoted("$"), lit(s))
			checkWord(t, "'$"+s+"'", quoted("$"+s))
			checkWord(t, "${a:-"+s+"}", param("a", ":-", lit(s)))
		}
	}
	checkErrEverywhere(t, "$abcdefghijklm")
	checkErrEverywhere(t, "$a23456789012_")
	checkErrEverywhere(t, "$"+strings.Repeat("a", 1900))
}

func TestTheFirstErrorOfAToken(t *testing.T) {
	long, tooDeep := "$abcdefghijklm", deep(21, "x")
	for _, c := range []struct {
		s string
		e api.Errno
	}{
		// What is ErrForm stands ahead of braces that are too deep.
		{long + tooDeep, api.ErrForm},
		{"${abcdefghijklm}" + tooDeep, api.ErrForm},
		{"${!}" + tooDeep, api.ErrForm},
		{"${" + tooDeep, api.ErrForm},
		{"${a" + tooDeep, api.ErrForm},
		{"${a:" + tooDeep, api.ErrForm},
		{"$((1" + tooDeep, api.ErrForm},
		{"$((" + tooDeep + "))", api.ErrForm},
		{"$((;))" + tooDeep, api.ErrForm},
		{"'" + tooDeep, api.ErrForm},
		{"\"" + long + tooDeep + "\"", api.ErrForm},
		{"${a:-" + long + tooDeep + "}", api.ErrForm},
		{deep(20, long+"${b}"), api.ErrForm},
		{deep(20, "$((1)"+"${b}"), api.ErrForm},
		{deep(20, "'${b}"), api.ErrForm},
		{deep(20, "x") + long + tooDeep, api.ErrForm},
		{deep(19, "${!}${b:-${c}}"), api.ErrForm},
		// What is ErrForm stands behind them, or shows itself only there.
		{tooDeep + long, api.ErrLimit},
		{tooDeep + "'", api.ErrLimit},
		{tooDeep + "\"", api.ErrLimit},
		{tooDeep + "\\", api.ErrLimit},
		{tooDeep + "${", api.ErrLimit},
		{tooDeep + "${0}", api.ErrLimit},
		{tooDeep + "$((", api.ErrLimit},
		{tooDeep + "&", api.ErrLimit},
		{"\"" + tooDeep, api.ErrLimit},
		{"\"a" + tooDeep + "b", api.ErrLimit},
		{"\"" + tooDeep + "\\", api.ErrLimit},
		{"${b:-" + tooDeep, api.ErrLimit},
		{deep(20, "${b}"+long), api.ErrLimit},
		{deep(20, "${b}'"), api.ErrLimit},
		{strings.Repeat("${a:-", 21), api.ErrLimit},
		{strings.Repeat("${a:-", 390), api.ErrLimit},
		{strings.Repeat("\"${a:-", 330), api.ErrLimit},
		// Too deep they are whatever stands in them.
		{strings.Repeat("${a:-", 20) + "${", api.ErrLimit},
		{deep(20, "${}"), api.ErrLimit},
		{deep(20, "${!}"), api.ErrLimit},
		{deep(20, "${0}"), api.ErrLimit},
		{deep(20, "${#1}"), api.ErrLimit},
		{deep(20, "${1:=b}"), api.ErrLimit},
		{deep(20, "${abcdefghijklm}"), api.ErrLimit},
	} {
		checkErr(t, c.s, 0, c.e)
		checkErr(t, "a \u20ac;"+c.s, 6, c.e)
		checkErr(t, c.s+" b", 0, c.e)
		checkErr(t, "c"+c.s, 0, c.e)
	}
}

func TestTheFirstErrorOfTokens(t *testing.T) {
	tooDeep := deep(21, "x")
	forms := []string{"&", "$abcdefghijklm", "${}", "$((;))", "${a:=}${1:=}"}
	for _, s := range forms {
		checkErr(t, "ab "+s+" "+tooDeep, 3, api.ErrForm)
		checkErr(t, tooDeep+" "+s, 0, api.ErrLimit)
		checkErr(t, "c\n"+tooDeep+"\n"+s, 2, api.ErrLimit)
		for _, other := range append([]string{"'", "\"", "\\", "${", "$(("}, forms...) {
			checkErr(t, "d;"+s+" "+other, 2, api.ErrForm)
		}
	}
	// Behind a # there is no error.
	check(t, "#"+tooDeep+" & '", fin(len(tooDeep)+5))
	checkErr(t, "# &\n&", 4, api.ErrForm)
}

func TestWithAnErrorThereAreNoTokens(t *testing.T) {
	for _, s := range []string{"&", "a b c &", "a; b '", "a\x00", "a b \xff", strings.Repeat("a ", 1000) + "b", strings.Repeat("a ", 999) + "'", "a " + deep(21, "x")} {
		if l, _, e := lex.Tokens(s); l != nil || e == api.OK {
			t.Errorf("Tokens(%.40q) = %+v, %v", s, l, e)
		}
	}
}

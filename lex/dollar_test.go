package lex_test

import (
	"slices"
	"strings"
	"testing"

	"lazarus/api"
)

// names are of each kind of letter, up to the longest; others are the parameters that have none.
var (
	names  = []string{"a", "z", "A", "Z", "_", "__", "a1", "a1_b", "_9", "x0Y", "PATH", "abcdefghijk", "abcdefghijkl", "A23456789012", "____________"}
	others = []string{"1", "2", "3", "4", "5", "6", "7", "8", "9", "@", "#", "?"}
)

// isName tells whether a letter may be within a name; a digit not as its first one.
func isName(c string) bool {
	return len(c) == 1 && strings.Contains("abcdefghijklmnopqrstuvwxyzABCDEFGHIJKLMNOPQRSTUVWXYZ_0123456789", c)
}

func TestDollarAndName(t *testing.T) {
	for _, s := range names {
		checkBoth(t, "$"+s, param(s, ""))
		checkBoth(t, "$"+s+"$"+s, param(s, ""), param(s, ""))
		checkBoth(t, "${"+s+"}", param(s, ""))
		checkBoth(t, "${"+s+"}${"+s+"}", param(s, ""), param(s, ""))
		checkEverywhere(t, "$"+s+"-b", param(s, ""), lit("-b"))
		checkEverywhere(t, "\"$"+s+"-b\"", in(param(s, "")), quoted("-b"))
		checkEverywhere(t, "${"+s+"}b", param(s, ""), lit("b"))
	}
	// It goes as long as its letters go.
	for _, c := range letters {
		if isName(c) {
			checkWord(t, "$b"+c, param("b"+c, ""))
			checkWord(t, "\"$b"+c+"\"", in(param("b"+c, "")))
			continue
		}
		checkWord(t, "$b"+c, param("b", ""), lit(c))
		checkWord(t, "\"$b"+c+"\"", in(param("b", "")), quoted(c))
	}
	for i, c := range strings.Split(metas, "") {
		s := "\"$b" + c + "\""
		switch {
		case c == "\"" || c == "\\":
			// These are told elsewhere.
		default:
			checkWord(t, s, in(param("b", "")), quoted(c))
		}
		if i < 2 {
			check(t, "$b"+c+"d", word(0, param("b", "")), word(3, lit("d")), fin(4))
		}
	}
	check(t, "$a;$b>$c", word(0, param("a", "")), sign(2, ";"), word(3, param("b", "")), sign(5, ">"), word(6, param("c", "")), fin(8))
}

func TestDollarAndOthers(t *testing.T) {
	for _, s := range others {
		checkBoth(t, "$"+s, param(s, ""))
		checkBoth(t, "${"+s+"}", param(s, ""))
		for _, c := range []string{"a", "0", "1", "9", "_", "@", "#", "?", "{", "\u00e9"} {
			checkWord(t, "$"+s+c, param(s, ""), lit(c))
			checkWord(t, "\"$"+s+c+"\"", in(param(s, "")), quoted(c))
			checkWord(t, "${"+s+"}"+c, param(s, ""), lit(c))
		}
		for _, other := range others {
			checkBoth(t, "$"+s+"$"+other, param(s, ""), param(other, ""))
			checkBoth(t, "$"+s+"${"+other+"}", param(s, ""), param(other, ""))
		}
		check(t, "$"+s+" $"+s+"|", word(0, param(s, "")), word(3, param(s, "")), sign(5, "|"), fin(6))
	}
	checkWord(t, "$@$#$?", param("@", ""), param("#", ""), param("?", ""))
	checkWord(t, "$12", param("1", ""), lit("2"))
	checkWord(t, "$1a", param("1", ""), lit("a"))
}

func TestDollarAndNothing(t *testing.T) {
	checkEverywhere(t, "$", quoted("$"))
	checkEverywhere(t, "a$", lit("a"), quoted("$"))
	checkEverywhere(t, "\"$\"", quoted("$"))
	checkEverywhere(t, "\"a$\"b", quoted("a$"), lit("b"))
	checkEverywhere(t, "$$a", quoted("$"), param("a", ""))
	checkEverywhere(t, "\"$$a\"", quoted("$"), in(param("a", "")))
	for _, c := range letters {
		if isName(c) && c != "0" || strings.Contains("@#?{", c) {
			continue
		}
		checkEverywhere(t, "$"+c, quoted("$"), lit(c))
		checkEverywhere(t, "\"$"+c+"\"", quoted("$"+c))
	}
	for i := 1; i < 128; i++ {
		c := string(rune(i))
		switch {
		case isName(c) && c != "0" || strings.Contains("@#?{\\", c):
			// These are told elsewhere.
		case c == "'" || c == "\"":
			checkEverywhere(t, "$"+c+"a"+c, quoted("$a"))
		case c == "$":
			checkEverywhere(t, "$$", quoted("$$"))
		case c == " " || c == "\t":
			check(t, "$"+c, word(0, quoted("$")), fin(2))
			checkWord(t, "\"$"+c+"\"", quoted("$"+c))
		case c == "&":
			checkErr(t, "$&", 1, api.ErrForm)
			checkWord(t, "\"$&\"", quoted("$&"))
		case strings.Contains(metas, c):
			check(t, "$"+c, word(0, quoted("$")), sign(1, c), fin(2))
			checkWord(t, "\"$"+c+"\"", quoted("$"+c))
		case c == "}":
			checkWord(t, "$}", quoted("$"), lit("}"))
			checkWord(t, "\"$}\"", quoted("$}"))
			checkWord(t, "${a:-$}", param("a", ":-", quoted("$")))
			checkWord(t, "${a:-$}}", param("a", ":-", quoted("$")), lit("}"))
		default:
			checkEverywhere(t, "$"+c, quoted("$"), lit(c))
			checkEverywhere(t, "\"$"+c+"\"", quoted("$"+c))
		}
	}
	// One parenthesis alone is no reckoning.
	check(t, "$(a)", word(0, quoted("$")), sign(1, "("), word(2, lit("a")), sign(3, ")"), fin(4))
	check(t, "$( (1))", word(0, quoted("$")), sign(1, "("), sign(3, "("), word(4, lit("1")), sign(5, ")"), sign(6, ")"), fin(7))
	checkWord(t, "\"$(a)\"", quoted("$(a)"))
	checkWord(t, "${a:-$(b)}", param("a", ":-", quoted("$"), lit("(b)")))
	check(t, "$\\((", word(0, quoted("$(")), sign(3, "("), fin(4))
}

func TestBracesWithoutOp(t *testing.T) {
	for _, s := range names {
		checkBoth(t, "${#"+s+"}", param(s, "#"))
		checkBoth(t, "${#"+s+"}${"+s+"}", param(s, "#"), param(s, ""))
		checkEverywhere(t, "${#"+s+"}b", param(s, "#"), lit("b"))
	}
	checkWord(t, "${#}${#a}${9}", param("#", ""), param("a", "#"), param("9", ""))
	// Only of a name it is asked how many letters its value has.
	for _, s := range others {
		checkErrEverywhere(t, "${#"+s+"}")
	}
	for _, s := range []string{"", "0", "10", "12", "01", "1a", "a b", " a", "a ", "\ta", "a\n", "-", "!", "*", "$", "$a", "{a}", "@@", "?1", "1?", "a@", "a#", "a-b", "a.b", "\u00e9", "a\u00e9", "'a'", "\"a\"", "\\a", "\"\"", ":-a", ":=", "=", "##", "# a", "#a ", "#0", "#-", "#a#", "#\u00e9", "#a:-b", "#a:=b", "#a:+b", "#a:-", "#(", "(", "((1))"} {
		checkErrEverywhere(t, "${"+s+"}")
	}
}

func TestBracesWithOp(t *testing.T) {
	for _, s := range slices.Concat(names, others) {
		for _, op := range []string{":-", ":+", ":="} {
			if op == ":=" && len(s) == 1 && !strings.Contains("azAZ_", s) {
				checkErrEverywhere(t, "${"+s+op+"}")
				checkErrEverywhere(t, "${"+s+op+"b}")
				continue
			}
			checkBoth(t, "${"+s+op+"}", param(s, op))
			checkBoth(t, "${"+s+op+"b}", param(s, op, lit("b")))
			checkBoth(t, "${"+s+op+"b 'c'\"$d\"}", param(s, op, lit("b "), quoted("c"), in(param("d", ""))))
			checkBoth(t, "${"+s+op+"''}", param(s, op, quoted("")))
			checkBoth(t, "${"+s+op+op+"}", param(s, op, lit(op)))
			checkEverywhere(t, "${"+s+op+"b}c", param(s, op, lit("b")), lit("c"))
		}
		for _, no := range []string{":", "-", "=", "+", "-b", "=b", "+b", ":b", ": -b", " :-b", ":?b", ":%b", "?", "?b", "#", "#b", "%b", "/b", "::-b", ":'-'b", "':-'b", ":\\-b", "\\:-b", "!", ";", "\n", "@b"} {
			checkErrEverywhere(t, "${"+s+no+"}")
		}
	}
	checkWord(t, "${#:-x}", param("#", ":-", lit("x")))
	checkWord(t, "${#:-}", param("#", ":-"))
	checkWord(t, "${#:+#}", param("#", ":+", lit("#")))
	checkWord(t, "${?:-?}", param("?", ":-", lit("?")))
	checkWord(t, "${@:+@}", param("@", ":+", lit("@")))
}

func TestLettersWithinBraces(t *testing.T) {
	for _, s := range []string{" ", "\t", "\n", ";", "&", "|", "(", ")", "<", ">", "#", "&&", ";;", "((1))", " #a\n", "{", "a;|&(<>\n\t)#", ":-", "a b\tc\nd", "-", "=", "+", ":", "\u00e9 \U0001f600", "{a", "!"} {
		checkEverywhere(t, "${b:-"+s+"}", param("b", ":-", lit(s)))
		checkEverywhere(t, "${b:="+s+"}c", param("b", ":=", lit(s)), lit("c"))
		checkEverywhere(t, "${b:+a"+s+"a}", param("b", ":+", lit("a"+s+"a")))
		checkEverywhere(t, "\"${b:-"+s+"}\"", in(param("b", ":-", lit(s))))
		check(t, "x ${b:-"+s+"}|${c}", word(0, lit("x")), word(2, param("b", ":-", lit(s))), sign(len(s)+8, "|"), word(len(s)+9, param("c", "")), fin(len(s)+13))
	}
	for _, c := range letters {
		checkEverywhere(t, "${b:-"+c+"}", param("b", ":-", lit(c)))
	}
}

func TestPartsWithinBraces(t *testing.T) {
	checkWord(t, "${a:-'x}'\"y\"\\}z}", param("a", ":-", quoted("x}y}"), lit("z")))
	checkWord(t, "${a:-}}", param("a", ":-"), lit("}"))
	checkWord(t, "${a:-{}}", param("a", ":-", lit("{")), lit("}"))
	checkWord(t, "${a:-\"}\"}", param("a", ":-", quoted("}")))
	checkWord(t, "${a:-\\\\}", param("a", ":-", quoted("\\")))
	checkWord(t, "${a:-${b}}", param("a", ":-", param("b", "")))
	checkWord(t, "${a:-${b:+$c}}", param("a", ":-", param("b", ":+", param("c", ""))))
	checkWord(t, "${a:-b${c:=d${e:+f}g}h}i", param("a", ":-", lit("b"), param("c", ":=", lit("d"), param("e", ":+", lit("f")), lit("g")), lit("h")), lit("i"))
	checkWord(t, "${a:-$((1 + (2)))}", param("a", ":-", arith("1 + (2)")))
	checkWord(t, "${a:-$1 $@}", param("a", ":-", param("1", ""), lit(" "), param("@", "")))
	check(t, "${a:-b}${c:-d} e", word(0, param("a", ":-", lit("b")), param("c", ":-", lit("d"))), word(15, lit("e")), fin(16))
}

func TestPartsWithinBracesAreQuotedAsTheyStandThere(t *testing.T) {
	checkWord(t, "\"${a:-b\"c\"}\"", in(param("a", ":-", lit("b"), quoted("c"))))
	checkWord(t, "\"${a:-b 'c' \\d $e $((1))}\"", in(param("a", ":-", lit("b "), quoted("c"), lit(" "), quoted("d"), lit(" "), param("e", ""), lit(" "), arith("1"))))
	checkWord(t, "\"${a:-\"$b\"}$c\"", in(param("a", ":-", in(param("b", "")))), in(param("c", "")))
	checkWord(t, "\"${a:-'\"'}\"", in(param("a", ":-", quoted("\""))))
	checkWord(t, "\"x${a:-\"y${b:-\"z\"w}\"v}u\"", quoted("x"), in(param("a", ":-", quoted("y"), in(param("b", ":-", quoted("z"), lit("w"))), lit("v"))), quoted("u"))
	checkWord(t, "${a:-\"${b:-c}\"}", param("a", ":-", in(param("b", ":-", lit("c")))))
	checkWord(t, "\"${a:-$}\"", in(param("a", ":-", quoted("$"))))
	checkWord(t, "\"${a:-\\b}\"", in(param("a", ":-", quoted("b"))))
	checkWord(t, "\"${a:-\"\\b\"}\"", in(param("a", ":-", quoted("\\b"))))
	checkWord(t, "\"${a}${#a}$((1))\"", in(param("a", "")), in(param("a", "#")), in(arith("1")))
}

func TestDepth(t *testing.T) {
	if api.MaxDepth != 20 {
		t.Fatalf("MaxDepth is %d", api.MaxDepth)
	}
	// Within braces of depth 19 there may be others, within those of depth 20 none.
	for depth := range 19 {
		checkWord(t, deep(depth, "${b}"), deepParts(depth, param("b", ""))...)
	}
	for _, c := range []struct {
		s string
		p api.Part
	}{
		{"${b}", param("b", "")},
		{"${1}", param("1", "")},
		{"${#}", param("#", "")},
		{"${#b}", param("b", "#")},
		{"${b:-}", param("b", ":-")},
		{"${b:=c}", param("b", ":=", lit("c"))},
		{"${@:+c}", param("@", ":+", lit("c"))},
	} {
		s := c.s
		checkWord(t, deep(19, s), deepParts(19, c.p)...)
		checkWord(t, deep(19, "x"+s), deepParts(19, lit("x"), c.p)...)
		checkWord(t, deep(19, "\""+s+"\""), deepParts(19, in(c.p))...)
		for _, depth := range []int{20, 21, 40, 100} {
			checkErr(t, deep(depth, s), 0, api.ErrLimit)
			checkErr(t, deep(depth, "x"+s), 0, api.ErrLimit)
			checkErr(t, deep(depth, "\""+s+"\""), 0, api.ErrLimit)
			checkErr(t, deep(depth, "'y'\"x "+s+"\""), 0, api.ErrLimit)
			checkErr(t, "a;"+deep(depth, s)+" b", 2, api.ErrLimit)
			checkErr(t, "\"\u00e9 "+deep(depth, s)+"\"", 0, api.ErrLimit)
		}
	}
	// What has no braces may stand within all that may be.
	checkWord(t, deep(20, "x"), deepParts(20, lit("x"))...)
	checkWord(t, deep(20, ""), deepParts(20)...)
	checkWord(t, deep(20, "$b"), deepParts(20, param("b", ""))...)
	checkWord(t, deep(20, "\"$1\""), deepParts(20, in(param("1", "")))...)
	checkWord(t, deep(20, "$((1))"), deepParts(20, arith("1"))...)
	checkWord(t, deep(20, "$"), deepParts(20, quoted("$"))...)
	checkWord(t, deep(20, "{"), deepParts(20, lit("{"))...)
	checkWord(t, deep(20, "\\${"), deepParts(20, quoted("$"), lit("{"))...)
	checkWord(t, deep(20, "'${b}'"), deepParts(20, quoted("${b}"))...)
	checkWord(t, deep(20, "\"\\${b\""), deepParts(20, quoted("${b"))...)
	// Those that stand side by side are not within one another.
	checkWord(t, strings.Repeat("${b}", 50), slices.Repeat([]api.Part{param("b", "")}, 50)...)
	checkWord(t, strings.Repeat("${a:-x}", 50), slices.Repeat([]api.Part{param("a", ":-", lit("x"))}, 50)...)
	checkWord(t, deep(19, strings.Repeat("${b}", 50)), deepParts(19, slices.Repeat([]api.Part{param("b", "")}, 50)...)...)
	checkWord(t, deep(20, "x")+deep(20, "y"), slices.Concat(deepParts(20, lit("x")), deepParts(20, lit("y")))...)
	check(t, deep(20, "x")+" "+deep(20, "y"), word(0, deepParts(20, lit("x"))...), word(122, deepParts(20, lit("y"))...), fin(243))
}

func TestDepthInQuotes(t *testing.T) {
	// nested is x within n braces, each within quotes of its own.
	nested := func(n int, x string) string {
		return strings.Repeat("\"${a:-", n) + x + strings.Repeat("}\"", n)
	}
	want := []api.Part{lit("x")}
	for depth := 1; depth <= 20; depth++ {
		want = []api.Part{in(param("a", ":-", want...))}
		checkWord(t, nested(depth, "x"), want...)
	}
	for _, depth := range []int{20, 21, 40, 100} {
		checkErr(t, nested(depth, "${b}"), 0, api.ErrLimit)
		checkErr(t, nested(depth, "\"${b}\""), 0, api.ErrLimit)
		checkErr(t, "b "+nested(depth, "${b:-c}"), 2, api.ErrLimit)
	}
}

func TestArith(t *testing.T) {
	for _, s := range []string{"", " ", "1", "1 + (2)", "a<=b_1", "\t1", "()", "(())", "(1)", "((1))", "(1)+(2)", "((1)+(2))*3", "-1", "!x", "1==2", "1!=2", "a%b", "1/2", "( 1 )", "()()", "(()())", "1 2", "==", "zZ_9", "(((((((1)))))))", "( ( ) )", "(\t)", "( ) ", " ( )"} {
		checkBoth(t, "$(("+s+"))", arith(s))
		checkBoth(t, "$(("+s+"))$(("+s+"))", arith(s), arith(s))
		checkEverywhere(t, "a$(("+s+"))b", lit("a"), arith(s), lit("b"))
		check(t, "$(("+s+")))", word(0, arith(s)), sign(len(s)+5, ")"), fin(len(s)+6))
		check(t, "$(("+s+"))))", word(0, arith(s)), sign(len(s)+5, ")"), sign(len(s)+6, ")"), fin(len(s)+7))
		check(t, "($(("+s+")))", sign(0, "("), word(1, arith(s)), sign(len(s)+6, ")"), fin(len(s)+7))
		checkWord(t, "\"$(("+s+")))\"", in(arith(s)), quoted(")"))
		checkErrEverywhere(t, "$(("+s)
		checkErrEverywhere(t, "$(("+s+")")
		checkErrEverywhere(t, "$(("+s+") )")
		checkErrEverywhere(t, "$(("+s+")a)")
		checkErrEverywhere(t, "$(("+s+"a(")
		checkErrEverywhere(t, "$((("+s+"))")
		checkErrEverywhere(t, "$(("+s+"("+"))")
		checkErrEverywhere(t, "$(("+s+")("+"))")
		checkErrEverywhere(t, "$(("+s+")("+")))")
	}
	for _, s := range []string{"$((", "$(( ", "$(()", "$(() )", "$((1)2))", "$(()())", "$((1)", "$((1", "$(((1))", "$(((", "$(((((", "$((()", "$(()(", "$(()()", "$((1)(2))", "$((1)+(2)))"} {
		checkErrEverywhere(t, s)
	}
}

func TestLettersOfArith(t *testing.T) {
	may := "abcdefghijklmnopqrstuvwxyzABCDEFGHIJKLMNOPQRSTUVWXYZ0123456789_ \t+-*/%<>=!"
	for i := 1; i < 128; i++ {
		c := string(rune(i))
		switch {
		case strings.Contains("()", c):
			// These are told elsewhere.
		case strings.Contains(may, c):
			checkBoth(t, "$(("+c+"))", arith(c))
			checkBoth(t, "$((1"+c+"(2)))", arith("1"+c+"(2)"))
			checkBoth(t, "$((("+c+")"+c+"))", arith("("+c+")"+c))
		default:
			checkErrEverywhere(t, "$(("+c+"))")
			checkErrEverywhere(t, "$((1"+c+"(2)))")
			checkErrEverywhere(t, "$((1 + (2"+c+")))")
			checkErrEverywhere(t, "$((1))$((1"+c+"))")
		}
	}
	for _, c := range []string{"\u00e9", "\u20ac", "\U0001f600", "\ufffd", "\u00a0", "\uff11", "\u0661", "\u212a"} {
		checkErrEverywhere(t, "$(("+c+"))")
		checkErrEverywhere(t, "$((1 + "+c+"))")
		checkWord(t, "$((1))"+c, arith("1"), lit(c))
	}
	// Quotes, braces, dollars are none of them, even where what is within would be.
	for _, s := range []string{"'1'", "\"1\"", "\\1", "$a", "${a}", "$1", "$((1))", "a;b", "1&2", "1|2", "#", "a#b", "{1}", "1,2", "1\n", "\n1", "a?b", "1.0", "a[1]", "~1", "1^2", "@"} {
		checkErrEverywhere(t, "$(("+s+"))")
	}
}

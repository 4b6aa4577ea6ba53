package show_test

import (
	"strings"
	"testing"

	"lazarus/api"
	"lazarus/show"
	"lazarus/tree"
)

func TestLits(t *testing.T) {
	checkWord(t, "a", lit("a"))
	checkWord(t, "echo", lit("echo"))
	checkWord(t, "#a", lit("#a"))
	checkWord(t, "x=1", lit("x=1"))
	checkWord(t, "if", lit("if"))
	checkWord(t, "{}!#*?[a-z]~", lit("{}!#*?[a-z]~"))
	checkWord(t, "\u00e9\u4e16\U0001f600\ufffd", lit("\u00e9\u4e16\U0001f600\ufffd"))
	checkWord(t, `"a"`, quoted("a"))
	checkWord(t, `""`, quoted(""))
	checkWord(t, `"\""`, quoted(`"`))
	checkWord(t, `"\$"`, quoted(`$`))
	checkWord(t, `"\\"`, quoted(`\`))
	checkWord(t, `"\\\\\\"`, quoted(`\\\`))
	checkWord(t, `"a\"b\$c\\d"`, quoted(`a"b$c\d`))
	checkWord(t, `"\${a}\$b\$((1))\\\""`, quoted(`${a}$b$((1))\"`))
	checkWord(t, `"'"`, quoted("'"))
	checkWord(t, `"a b"`, quoted("a b"))
	checkWord(t, "\" \t\n\"", quoted(" \t\n"))
	checkWord(t, `";&|()<>"`, quoted(";&|()<>"))
	checkWord(t, "\"\\\\\n\"", quoted("\\\n"))
	checkWord(t, "\"#\u00e9\u4e16\U0001f600\ufffd`\"", quoted("#\u00e9\u4e16\U0001f600\ufffd`"))
}

func TestLitsOfEachLetter(t *testing.T) {
	bare, within := 0, 0
	for r := rune(1); r < 0x180; r++ {
		s := string(r)
		kept := s
		if strings.ContainsRune("\"$\\", r) {
			kept = `\` + s
		}
		checkWord(t, `"`+kept+`"`, quoted(s))
		checkWord(t, `"a`+kept+`b`+kept+`"`, quoted("a"+s+"b"+s))
		checkWord(t, `${a:+"`+kept+`"}`, param("a", ":+", quoted(s)))
		checkWord(t, `"${a:+"`+kept+`"}"`, in(param("a", ":+", quoted(s))))
		if tree.Word(word(lit(s))) {
			bare++
			checkWord(t, s, lit(s))
			checkWord(t, s+"a"+s, lit(s+"a"+s))
		}
		if tree.Word(word(param("a", ":-", lit(s)))) {
			within++
			checkWord(t, "${a:-"+s+"}", param("a", ":-", lit(s)))
			checkWord(t, "\"${a:-"+s+"a"+s+"}\"", in(param("a", ":-", lit(s+"a"+s))))
		}
	}
	if bare != 0x17f-14 || within != 0x17f-5 {
		t.Error("letters that may stand without quotes:", bare, "within braces:", within)
	}
}

func TestVars(t *testing.T) {
	for _, s := range []string{"a", "_", "Z9", "abcdefghijkl", "if", "1", "9", "@", "#", "?"} {
		checkWord(t, "${"+s+"}", param(s, ""))
		checkWord(t, `"${`+s+`}"`, in(param(s, "")))
		for _, op := range []string{":-", ":=", ":+"} {
			if op == ":=" && strings.Contains("19@#?", s) {
				continue
			}
			checkWord(t, "${"+s+op+"}", param(s, op))
			checkWord(t, `"${`+s+op+`}"`, in(param(s, op)))
			checkWord(t, "${"+s+op+"x}", param(s, op, lit("x")))
			checkWord(t, "${"+s+op+`""}`, param(s, op, quoted("")))
			checkWord(t, "${"+s+op+`b c"d"${e}$((1))}`, param(s, op, lit("b c"), quoted("d"), param("e", ""), arith("1")))
			checkWord(t, `"${`+s+op+`b c"d""${e}""$((1))"}"`, in(param(s, op, lit("b c"), quoted("d"), in(param("e", "")), in(arith("1")))))
		}
	}
	for _, s := range []string{"a", "_", "Z9", "abcdefghijkl", "if"} {
		checkWord(t, "${#"+s+"}", param(s, "#"))
		checkWord(t, `"${#`+s+`}"`, in(param(s, "#")))
	}
}

func TestWordsOfVars(t *testing.T) {
	// What is a sign elsewhere stands there as it is.
	checkWord(t, "${a:- \t\n;&|()<>{#}", param("a", ":-", lit(" \t\n;&|()<>{#")))
	checkWord(t, `${a:-"}"}`, param("a", ":-", quoted("}")))
	checkWord(t, `${a:-b"\"\$\\}'"c}`, param("a", ":-", lit("b"), quoted(`"$\}'`), lit("c")))
	checkWord(t, "${a:-:-}", param("a", ":-", lit(":-")))
	checkWord(t, "${#:-#a}", param("#", ":-", lit("#a")))
	checkWord(t, "${a:-${b:=${c:+${d}}}}", param("a", ":-", param("b", ":=", param("c", ":+", param("d", "")))))
	checkWord(t, "${a:-${b:-}${c:-}}", param("a", ":-", param("b", ":-"), param("c", ":-")))
	checkWord(t, "${a:-${#b}}", param("a", ":-", param("b", "#")))
	checkWord(t, "${a:-$((1 + (2)))}", param("a", ":-", arith("1 + (2)")))
	// A part is Quoted as it says, whatever stands around it.
	checkWord(t, `"${a:-b"c"${d:-e"f"}"${g:-h}"}"`, in(param("a", ":-", lit("b"), quoted("c"), param("d", ":-", lit("e"), quoted("f")), in(param("g", ":-", lit("h"))))))
	checkWord(t, `${a:-"${b:-c}"}`, param("a", ":-", in(param("b", ":-", lit("c")))))
}

func TestDeepWords(t *testing.T) {
	for n := range api.MaxDepth + 1 {
		ahead, behind := strings.Repeat("${a:-", n), strings.Repeat("}", n)
		checkWord(t, ahead+"x"+behind, deep(n, lit("x"))...)
		checkWord(t, ahead+"$((1))"+behind, deep(n, arith("1"))...)
		checkWord(t, "b"+ahead+`"\""`+behind+"c", append(append([]api.Part{lit("b")}, deep(n, quoted(`"`))...), lit("c"))...)
		if n > 0 {
			checkWord(t, ahead+behind, deep(n)...)
		}
		// At the deepest a parameter may stand without braces alone: what it is shown as is too deep for the lexer.
		checkWord(t, ahead+"${x}"+behind, deep(n, param("x", ""))...)
		checkWord(t, ahead+`"${1}"`+behind, deep(n, in(param("1", "")))...)
		checkWord(t, ahead+"${#x}"+behind, deep(n, param("x", "#"))...)
	}
	if s := show.Word(word(deep(api.MaxDepth+1, lit("x"))...)); s != "" {
		t.Errorf("too deep a word: %q", s)
	}
}

func TestAriths(t *testing.T) {
	for _, s := range []string{"", "1", "a", " 1 + 2 ", "(1)", "((1))", "()", "(1)+(2)", "((1)+2)*3", "(((a)))", "a=b+1", "1 <= 2 == 3 >= 4 != 5", "\t1%2/3-4", "9_aZ"} {
		checkWord(t, "$(("+s+"))", arith(s))
		checkWord(t, `"$((`+s+`))"`, in(arith(s)))
		checkWord(t, "${a:-$(("+s+"))}", param("a", ":-", arith(s)))
		checkWord(t, "a$(("+s+"))b\"$(("+s+"))\"$(("+s+"))", lit("a"), arith(s), lit("b"), in(arith(s)), arith(s))
	}
}

func TestPartsSideBySide(t *testing.T) {
	checkWord(t, `a"b"c"d"`, lit("a"), quoted("b"), lit("c"), quoted("d"))
	checkWord(t, `a"${b}"`, lit("a"), in(param("b", "")))
	checkWord(t, `${a}b`, param("a", ""), lit("b"))
	checkWord(t, `${1}2`, param("1", ""), lit("2"))
	checkWord(t, `"a""${b}""c"`, quoted("a"), in(param("b", "")), quoted("c"))
	checkWord(t, `"""${b}"""`, quoted(""), in(param("b", "")), quoted(""))
	checkWord(t, `""a""`, quoted(""), lit("a"), quoted(""))
	checkWord(t, `"\$"a`, quoted("$"), lit("a"))
	checkWord(t, `"\$"{a}`, quoted("$"), lit("{a}"))
	checkWord(t, `"\$"${a}`, quoted("$"), param("a", ""))
	checkWord(t, `"\\""${a}"`, quoted(`\`), in(param("a", "")))
	checkWord(t, `a"'"b`, lit("a"), quoted("'"), lit("b"))
	checkWord(t, `x="1"`, lit("x="), quoted("1"))
	checkWord(t, `"x"=1`, quoted("x"), lit("=1"))
	checkWord(t, "a\"\n\"b", lit("a"), quoted("\n"), lit("b"))
	// Each kind beside each other, Quoted and not.
	kinds := []struct {
		p api.Part
		s string
	}{
		{lit("l"), `l`}, {quoted(`"`), `"\""`}, {quoted(""), `""`}, {param("v", ""), `${v}`}, {in(param("v", "")), `"${v}"`}, {param("v", "#"), `${#v}`},
		{param("v", ":+", lit("w")), `${v:+w}`}, {in(param("v", ":-", quoted("w"))), `"${v:-"w"}"`}, {arith("(1)"), `$(((1)))`}, {in(arith("")), `"$(())"`},
	}
	pairs := 0
	for _, x := range kinds {
		for _, y := range kinds {
			if !tree.Word(word(x.p, y.p)) {
				continue
			}
			pairs++
			checkWord(t, x.s+y.s, x.p, y.p)
			checkWord(t, "${a:="+x.s+y.s+"}", param("a", ":=", x.p, y.p))
			checkWord(t, `"${a:=`+x.s+y.s+`}"`, in(param("a", ":=", x.p, y.p)))
		}
	}
	// Two Lits that are both Quoted or both not do not stand side by side.
	if pairs != 100-5 {
		t.Error("pairs:", pairs)
	}
}

func TestLongWords(t *testing.T) {
	for _, n := range []int{api.MaxText - 3, api.MaxText - 2, api.MaxText - 1, api.MaxText, 10 * api.MaxText, 1 << 20} {
		s := strings.Repeat("a", n)
		checkWord(t, s, lit(s))
		checkWord(t, `"`+s+`"`, quoted(s))
		n = min(n, 1<<16)
		checkWord(t, strings.Repeat(`a"b"`, n), alternating(n)...)
	}
	s := strings.Repeat("\"\u00e9", 1<<18)
	checkWord(t, `"`+strings.Repeat("\\\"\u00e9", 1<<18)+`"`, quoted(s))
}

// alternating is n times two Lits.
func alternating(n int) []api.Part {
	var l []api.Part
	for range n {
		l = append(l, lit("a"), quoted("b"))
	}
	return l
}

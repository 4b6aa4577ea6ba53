package tree_test

import (
	"math"
	"strings"
	"testing"

	"lazarus/api"
	"lazarus/tree"
)

// metas are all meta letters, metasWithin those of a Word of a Var.
const (
	metas       = " \t\n;&|()<>'\"$\\"
	metasWithin = "'\"$\\}"
)

// letters are such as are no meta letters, of one to four bytes.
var letters = []string{"a", "Z", "_", "0", "9", "#", "%", "*", "?", "[", "]", "!", "=", "~", "^", ",", "/", ".", "`", "@", ":", "-", "+", "{", "\r", "\v", "\f", "\x01", "\x7f", "\u00a0", "\u00e9", "\u2028", "\u20ac", "\uff04", "\ufeff", "\ufffd", "\uffff", "\U0001f600", "\U0010ffff"}

// noTexts are no texts of letters.
var noTexts = []string{"\x00", "a\x00", "\x00a", "\xff", "a\xff", "\x80", "\xc2", "a\xe2\x82", "\xc0\x80", "\xed\xa0\x80", "\xf4\x90\x80\x80", "\u00e9\xff\u00e9"}

// checkWord holds what Word tells against what it should tell.
func checkWord(t *testing.T, want bool, l ...api.Part) {
	t.Helper()
	if tree.Word(word(l...)) != want {
		t.Errorf("Word(%s) = %v", short(l), !want)
	}
}

// checkWithin holds it of a Word of a Var, checkBoth of a word and of that.
func checkWithin(t *testing.T, want bool, l ...api.Part) {
	t.Helper()
	checkWord(t, want, param("a", ":-", l...))
	checkWord(t, want, lit("x"), in(param("9", ":+", l...)), lit("x"))
	checkWord(t, want, param("a", ":=", quoted("x"), param("b", ":-", l...)))
}

func checkBoth(t *testing.T, want bool, l ...api.Part) {
	t.Helper()
	checkWord(t, want, l...)
	checkWithin(t, want, l...)
}

func TestOrdinaryWords(t *testing.T) {
	checkBoth(t, true, lit("a"))
	checkBoth(t, true, lit("echo"))
	checkBoth(t, true, lit("*.c"))
	checkBoth(t, true, lit("x="), param("y", ""))
	checkBoth(t, true, lit("a"), quoted("b c"), lit("d"))
	checkBoth(t, true, in(param("a", "")), param("b", ""), in(param("a", "")), in(param("a", "")))
	checkBoth(t, true, arith("i + 1"), in(arith("(1) * 2")), arith("i + 1"))
	checkBoth(t, true, param("x", ":-", lit("a"), quoted("'"), param("y", "#")), lit("b"))
	checkBoth(t, true, in(param("x", ":+", in(param("y", ":=", quoted(""))))))
}

func TestAWordHasParts(t *testing.T) {
	checkWord(t, false)
	if tree.Word(api.Word{Parts: []api.Part{}}) {
		t.Error("a list of no part is a word")
	}
	// A Word of a Var may be none.
	for _, op := range []string{":-", ":=", ":+"} {
		checkWord(t, true, param("a", op))
		checkWord(t, true, api.Part{Kind: api.Var, Text: "a", Op: op, Word: []api.Part{}})
	}
}

func TestKindsOfParts(t *testing.T) {
	for _, kind := range []int{math.MinInt, -1, 0, 4, 5, 257, math.MaxInt} {
		for _, s := range []string{"", "a", "1"} {
			checkBoth(t, false, api.Part{Kind: kind, Text: s})
			checkBoth(t, false, api.Part{Kind: kind, Text: s, Quoted: true})
			checkBoth(t, false, lit("a"), api.Part{Kind: kind, Text: s})
			checkBoth(t, false, api.Part{Kind: kind, Text: s}, lit("a"))
		}
	}
}

func TestLitOfNoLetter(t *testing.T) {
	checkBoth(t, false, lit(""))
	checkBoth(t, true, quoted(""))
	checkBoth(t, true, quoted(""), lit("a"))
	checkBoth(t, true, quoted(""), in(param("a", "")), quoted(""))
	checkBoth(t, false, quoted("a"), lit(""))
	checkBoth(t, false, param("a", ""), lit(""))
}

func TestLitOfNoLetters(t *testing.T) {
	for _, s := range noTexts {
		checkBoth(t, false, lit(s))
		checkBoth(t, false, quoted(s))
		checkBoth(t, false, param("a", ""), quoted(s))
		checkBoth(t, false, lit("a"), quoted(s), lit("a"))
	}
}

func TestLitOfEachLetter(t *testing.T) {
	for _, s := range letters {
		for _, x := range []string{s, s + s, "a" + s, s + "a", "a" + s + "a"} {
			checkBoth(t, true, lit(x))
			checkBoth(t, true, quoted(x))
		}
	}
	for r := rune(1); r < 128; r++ {
		for _, x := range []string{string(r), "a" + string(r), string(r) + "a", "\u00e9" + string(r) + "\u00e9"} {
			checkWord(t, !strings.ContainsRune(metas, r), lit(x))
			checkWithin(t, !strings.ContainsRune(metasWithin, r), lit(x))
			checkBoth(t, true, quoted(x))
		}
	}
	checkBoth(t, true, quoted(metas+metasWithin))
	checkBoth(t, true, lit("{a"))
	checkWord(t, true, lit("}"))
	checkWithin(t, true, lit(" \t\n;&|()<>"))
}

func TestLitsSideBySide(t *testing.T) {
	for _, a := range []string{"a", "b"} {
		for _, b := range []string{"a", "b"} {
			checkBoth(t, false, lit(a), lit(b))
			checkBoth(t, false, quoted(a), quoted(b))
			checkBoth(t, true, lit(a), quoted(b))
			checkBoth(t, true, quoted(a), lit(b))
			checkBoth(t, true, quoted(a), lit(b), quoted(a), lit(b))
			checkBoth(t, false, quoted(a), lit(b), quoted(a), quoted(b))
			checkBoth(t, false, lit(a), lit(b), quoted(a), lit(b))
			checkBoth(t, true, lit(a), param("a", ""), lit(b))
			checkBoth(t, true, quoted(a), in(arith("1")), quoted(b))
		}
	}
	checkBoth(t, false, quoted(""), quoted(""))
	checkBoth(t, false, quoted("a"), quoted(""))
	// What is within a Word and what is around it are not side by side.
	checkBoth(t, true, lit("a"), param("a", ":-", lit("a")), lit("a"))
	checkBoth(t, true, quoted("a"), in(param("a", ":-", quoted("a"), lit("b"))), quoted("a"))
	// Only Lits are made one.
	checkBoth(t, true, param("a", ""), param("a", ""))
	checkBoth(t, true, arith("1"), arith("1"), in(arith("1")), in(arith("1")))
}

// whose are Texts of a Var: names, other parameters, and such as are none.
var whose = []struct {
	s       string
	name    bool
	special bool
}{
	{"a", true, false}, {"Z", true, false}, {"_", true, false}, {"_9", true, false}, {"if", true, false}, {"a1_Z", true, false},
	{strings.Repeat("a", 12), true, false}, {strings.Repeat("a", 13), false, false}, {strings.Repeat("a", 1000), false, false},
	{"1", false, true}, {"2", false, true}, {"3", false, true}, {"4", false, true}, {"5", false, true}, {"6", false, true}, {"7", false, true}, {"8", false, true}, {"9", false, true},
	{"@", false, true}, {"#", false, true}, {"?", false, true},
	{"", false, false}, {"0", false, false}, {"10", false, false}, {"12", false, false}, {"99", false, false}, {"1a", false, false}, {"@#", false, false}, {"@#?", false, false}, {"?a", false, false}, {"##", false, false},
	{"#a", false, false}, {"*", false, false}, {"!", false, false}, {"-", false, false}, {"$", false, false}, {"{", false, false}, {"}", false, false}, {" ", false, false}, {"a ", false, false}, {" a", false, false}, {"a-b", false, false}, {"a:", false, false}, {"a:-b", false, false},
	{"\u00e9", false, false}, {"a\u00e9", false, false}, {"\u00b9", false, false}, {"\u0661", false, false}, {"\x00", false, false}, {"a\x00", false, false}, {"\xff", false, false}, {"\ufffd", false, false},
}

func TestVarOfEachTextAndOp(t *testing.T) {
	for _, x := range whose {
		known := x.name || x.special
		for _, w := range [][]api.Part{nil, {}, {lit("x y")}, {quoted("x")}, {in(param("b", ""))}, {arith("1")}, {lit("x"), quoted(""), param("@", "")}} {
			none := len(w) == 0
			checkBoth(t, known && none, param(x.s, "", w...))
			checkBoth(t, x.name && none, param(x.s, "#", w...))
			checkBoth(t, known, param(x.s, ":-", w...))
			checkBoth(t, x.name, param(x.s, ":=", w...))
			checkBoth(t, known, param(x.s, ":+", w...))
			checkBoth(t, known && none, in(param(x.s, "", w...)))
			checkBoth(t, known, in(param(x.s, ":+", w...)))
			for _, op := range []string{"-", "+", "=", ":", ":?", "::-", ":-:-", " :-", ":- ", "##", "%", "a", "@", "<", "\x00", "\xff"} {
				checkBoth(t, false, param(x.s, op, w...))
			}
		}
	}
}

func TestWordOfAVar(t *testing.T) {
	for _, op := range []string{":-", ":=", ":+"} {
		for _, p := range []api.Part{lit("a"), lit(" ;\n"), lit("#"), quoted(""), quoted("}"), param("a", ""), param("a", "#"), in(param("1", ":-", lit("a"))), arith(""), in(arith("1"))} {
			checkBoth(t, true, param("a", op, p))
			checkBoth(t, true, param("a", op, quoted("x"), param("?", ""), p))
		}
		for _, p := range []api.Part{lit(""), lit("}"), lit("a'"), lit("a\""), lit("$a"), lit("\\a"), quoted("\xff"), param("", ""), param("a", "?"), arith(")"), {}, {Kind: 4, Text: "a"}, {Kind: api.Lit, Text: "a", Op: "#"}} {
			checkBoth(t, false, param("a", op, p))
			checkBoth(t, false, param("a", op, quoted("x"), param("?", ""), p))
			checkBoth(t, false, param("a", op, p, param("?", "")))
		}
		checkBoth(t, false, param("a", op, lit("a"), lit("b")))
	}
	// Within a Word of a Var other letters are meta letters, also within what stands in it; behind it they are as ahead of it.
	checkWord(t, true, param("a", ":-", param("b", ":-", lit(" ;"))), lit("}"))
	checkWord(t, false, param("a", ":-", param("b", ":-", lit("x}"))), lit("}"))
	checkWord(t, false, param("a", ":-", lit(" ")), lit(" "))
	checkWord(t, false, param("a", ":-", param("b", ""), lit("}")), lit("}"))
}

// reckoned are the letters that an Arith may have.
const reckoned = "abcdefghijklmnopqrstuvwxyzABCDEFGHIJKLMNOPQRSTUVWXYZ0123456789_ \t+-*/%()<>=!"

func TestArithOfEachLetter(t *testing.T) {
	for r := rune(1); r < 256; r++ {
		may := strings.ContainsRune(reckoned, r)
		for _, x := range []string{string(r), "1" + string(r), string(r) + "1", "(" + string(r) + "+1)"} {
			checkBoth(t, may && r != '(' && r != ')', arith(x))
			checkBoth(t, may && r != '(' && r != ')', in(arith(x)))
		}
	}
	for _, s := range append(append([]string{"\u00b2", "\u0661", "\u00e9", "\u20ac", "\u2028", "\ufffd", "\U0001f600"}, noTexts...), "&", "1&1", "$a", "a\n", "\n", "1;", "~1", "a|b", "a^b", "1,2", "0.5", "#", "a?b", "'", "[1]", "\r") {
		checkBoth(t, false, arith(s))
		checkBoth(t, false, arith("1 + "+s))
	}
	checkBoth(t, true, arith(strings.NewReplacer("(", "", ")", "").Replace(reckoned)))
	checkBoth(t, true, arith(strings.Repeat("1 ", 5000)))
}

func TestParenthesesOfAnArith(t *testing.T) {
	for _, s := range []string{"", "1", "()", "(1)", "()()", "(())", "((()))", "(1)+(2)", "((1)+(2))*3", "1 + (2 * (3 - 4))", strings.Repeat("(", 1000) + strings.Repeat(")", 1000)} {
		checkBoth(t, true, arith(s))
	}
	for _, s := range []string{"(", ")", ")(", "(1", "1)", "(()", "())", "1))+((2", "())(", "()())(()", ")()(", "1)+(2", strings.Repeat("(", 1000) + strings.Repeat(")", 999), strings.Repeat("(", 1000) + strings.Repeat(")", 1001)} {
		checkBoth(t, false, arith(s))
	}
	// All texts of parentheses up to eight of them.
	for n := range 9 {
		for bits := range 1 << n {
			s := ""
			for i := range n {
				s += string("()"[bits>>i&1])
			}
			checkWord(t, balanced(s), arith(s))
		}
	}
}

// balanced tells whether nothing is left of parentheses from which pairs are taken out.
func balanced(s string) bool {
	for strings.Contains(s, "()") {
		s = strings.ReplaceAll(s, "()", "")
	}
	return s == ""
}

func TestLitAndArithHaveNoOpAndNoWord(t *testing.T) {
	for _, p := range []api.Part{lit("a"), quoted("a"), quoted(""), arith("1"), in(arith("1")), arith("")} {
		checkBoth(t, true, p)
		for _, op := range []string{"#", ":-", ":=", ":+", "a", " "} {
			q := p
			q.Op = op
			checkBoth(t, false, q)
			q.Word = []api.Part{lit("x")}
			checkBoth(t, false, q)
		}
		p.Word = []api.Part{lit("x")}
		checkBoth(t, false, p)
		p.Word = []api.Part{quoted("")}
		checkBoth(t, false, p)
		p.Word = []api.Part{{}}
		checkBoth(t, false, p)
		p.Word = []api.Part{}
		checkBoth(t, true, p)
	}
}

func TestDepthOfAWord(t *testing.T) {
	for _, l := range [][]api.Part{{lit("x")}, {quoted("x")}, {param("a", "")}, {arith("1"), lit("x")}, {param("a", "#")}} {
		for n := range 25 {
			checkWord(t, n <= api.MaxDepth, deep(n, l...)...)
			checkWord(t, n <= api.MaxDepth, append([]api.Part{quoted("y")}, deep(n, param("?", ""))...)...)
		}
		checkWord(t, true, deep(api.MaxDepth, l...)...)
		checkWord(t, false, deep(api.MaxDepth+1, l...)...)
		checkWord(t, false, deep(3000, l...)...)
	}
	// A Word that is none is as deep as others.
	checkWord(t, true, deep(api.MaxDepth)...)
	checkWord(t, false, deep(api.MaxDepth+1)...)
	// One is not deeper for others that stand beside it, ahead of it or behind.
	w := deep(api.MaxDepth, lit("x"))
	checkWord(t, true, append(append(w[:1:1], w...), w...)...)
	w = deep(api.MaxDepth+1, lit("x"))
	checkWord(t, false, append([]api.Part{lit("a"), param("a", "")}, w...)...)
	checkWord(t, false, append(w[:1:1], lit("a"))...)
	// Each Op that has a Word counts, Quoted or not.
	for _, op := range []string{":-", ":=", ":+"} {
		checkWord(t, true, in(param("a", op, deep(api.MaxDepth-1, lit("x"))...)))
		checkWord(t, false, in(param("a", op, deep(api.MaxDepth, lit("x"))...)))
		checkWord(t, true, deep(api.MaxDepth-1, in(param("a", op, lit("x"))))...)
		checkWord(t, false, deep(api.MaxDepth, in(param("a", op, lit("x"))))...)
	}
}

func TestPlain(t *testing.T) {
	for _, x := range []struct {
		w    api.Word
		want string
		ok   bool
	}{
		{word(lit("a")), "a", true},
		{word(lit("if")), "if", true},
		{word(lit("\u00e9}#=")), "\u00e9}#=", true},
		{word(quoted("a")), "", false},
		{word(quoted("")), "", false},
		{word(), "", false},
		{api.Word{Parts: []api.Part{}}, "", false},
		{word(lit("a"), quoted("b")), "", false},
		{word(lit("a"), quoted("")), "", false},
		{word(quoted(""), lit("a")), "", false},
		{word(quoted("a"), lit("b")), "", false},
		{word(lit("a"), param("b", "")), "", false},
		{word(lit("a"), arith("1")), "", false},
		{word(param("a", ""), lit("b")), "", false},
		{word(param("a", "")), "", false},
		{word(in(param("a", ""))), "", false},
		{word(param("a", ":-", lit("a"))), "", false},
		{word(arith("1")), "", false},
		{word(in(arith("1"))), "", false},
		{word(lit("a"), quoted("b"), lit("c")), "", false},
	} {
		if s, ok := tree.Plain(x.w); s != x.want || ok != x.ok {
			t.Errorf("Plain(%+v) = %q, %v", x.w, s, ok)
		}
	}
	for _, s := range append(letters, reservedWords...) {
		if got, ok := tree.Plain(word(lit(s))); got != s || !ok {
			t.Errorf("Plain of %q = %q, %v", s, got, ok)
		}
		if got, ok := tree.Plain(word(quoted(s))); got != "" || ok {
			t.Errorf("Plain of %q in quotes = %q, %v", s, got, ok)
		}
	}
}

func TestReserved(t *testing.T) {
	all := map[string]int{}
	for _, s := range reservedWords {
		all[s] = 1
	}
	if len(all) != 16 {
		t.Fatal(all)
	}
	for _, s := range reservedWords {
		if !tree.Reserved(s) {
			t.Errorf("Reserved(%q) = false", s)
		}
		for i := range s {
			if tree.Reserved(s[:i]) != (all[s[:i]] == 1) || tree.Reserved(s[i+1:]) != (all[s[i+1:]] == 1) {
				t.Errorf("a piece of %q", s)
			}
		}
		for r := rune(0); r < 300; r++ {
			for _, x := range []string{s + string(r), string(r) + s} {
				if tree.Reserved(x) != (all[x] == 1) {
					t.Errorf("Reserved(%q) = %v", x, !tree.Reserved(x))
				}
			}
		}
		for _, x := range []string{s + s, s + " " + s, " " + s, s + "\n", strings.ToUpper(s[:1]) + s[1:] + "x", "\"" + s + "\"", s + "\xff"} {
			if tree.Reserved(x) {
				t.Errorf("Reserved(%q) = true", x)
			}
		}
	}
	for _, s := range []string{"", " ", "a", "IF", "If", "echo", "function", "select", "return", "exit", "break", "then;", "()", "[", "]", "{}", "!!", "&&", "esacs", "\x00", "\xff", strings.Join(reservedWords, " "), strings.Repeat("if", 10000)} {
		if tree.Reserved(s) {
			t.Errorf("Reserved(%.40q) = true", s)
		}
	}
}

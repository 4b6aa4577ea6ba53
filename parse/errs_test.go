package parse_test

import (
	"strings"
	"testing"

	"lazarus/api"
	"lazarus/lex"
	"lazarus/parse"
	"lazarus/tree"
)

func TestErrorsOfTheLexer(t *testing.T) {
	bad(t, "a ^'b", "a ^\"b", "a ^& b", "a ^&", "^&", "a; ^${", "a ^$((1", "a ^$abcdefghijklm", "^b\\", "a^\x00", "a^\xff", "# ^\xff", "a 'b^\x00'", "'a^\xff")
	// They are told ahead of a token that does not fit, wherever they stand.
	bad(t, "; ^'b", ";; a ^& b", ";^\xff;", "; a^\x00", ") ^${a", "{ ^\"", "then ^$((", "a && ; ^b'", "if fi; ^\\", "! ! ^&", "a(b) ^'")
	deep := strings.Repeat("${a:-", api.MaxDepth+1) + strings.Repeat("}", api.MaxDepth+1)
	checkErr(t, deep, 0, api.ErrLimit)
	checkErr(t, "a; b"+deep, 3, api.ErrLimit)
	checkErr(t, "; "+deep, 2, api.ErrLimit)
	checkErr(t, "a ) "+deep, 4, api.ErrLimit)
	check(t, deep[5:len(deep)-1], cmd(deep[5:len(deep)-1]))
	// Of two of them the lexer tells the first.
	bad(t, "; ^& 'b", "; ^'b &")
	checkErr(t, "; & "+deep, 2, api.ErrForm)
	checkErr(t, "; "+deep+" &", 2, api.ErrLimit)
	// They are told ahead of too many commands within one another, and of too many nodes.
	bad(t, strings.Repeat("{ ", api.MaxDepth)+"a ^'", strings.Repeat("(", 2*api.MaxDepth)+"a; ^& b", strings.Repeat("a;", 2*api.MaxNodes)+"^'")
	checkErr(t, strings.Repeat("( ", api.MaxDepth)+deep, 2*api.MaxDepth, api.ErrLimit)
	for _, s := range []string{"a 'b", "; &", ";\x00", "; ${a", deep} {
		_, at, e := lex.Tokens(s)
		checkErr(t, s, at, e)
	}
}

func TestLongTexts(t *testing.T) {
	// A text of so many bytes may be one; of more it is none, whatever it has.
	for _, s := range []string{"a", ";", "&", "'", "\xff", "\x00", " ", "\n", "{ "} {
		checkErr(t, strings.Repeat(s, api.MaxText)[:api.MaxText]+"a", 0, api.ErrLimit)
		checkErr(t, strings.Repeat(s, 1<<20), 0, api.ErrLimit)
	}
	long := strings.Repeat("a", api.MaxText)
	check(t, long, cmd(long))
	check(t, strings.Repeat("a ", api.MaxText/2), cmd(strings.Repeat("a ", api.MaxText/2)))
	check(t, strings.Repeat(" ", api.MaxText-1)+"a", a)
	check(t, "a"+strings.Repeat("\n", api.MaxText-1), a)
	checkErr(t, strings.Repeat(" ", api.MaxText), api.MaxText, api.ErrForm)
	checkErr(t, strings.Repeat("\n", api.MaxText), api.MaxText, api.ErrForm)
	checkErr(t, strings.Repeat(" ", api.MaxText-1)+";", api.MaxText-1, api.ErrForm)
	checkErr(t, "a"+strings.Repeat(" ", api.MaxText-2)+"&", api.MaxText-1, api.ErrForm)
}

func TestPlacesAreBytes(t *testing.T) {
	bad(t, "\u00e9; \u20ac 'x\U0001f600' ^)", "\U0001f600^;;", "  \t # \u00e9\n  ^|", "'\n\n' x^(", "a \"\u00e9\" ; ^;", "{ \u00e9 }^", "{ \u00e9; # \u20ac^", "if \u00e9;\n\tthen ^fi", "a \\\n ^(")
}

// around is what stands ahead of a command and behind it, so that it is within n more.
var around = []struct {
	ahead, behind string
	n             int
}{
	{"{ ", "; }", 1},
	{"(", ")", 1},
	{"! { ", "; } | a", 1},
	{"a && (", ")", 1},
	{"a; b | (", ")", 1},
	{"if ", "; then b; fi", 1},
	{"if a; then ", "; fi", 1},
	{"if a; then b; else ", "; fi", 1},
	{"if a; then b; elif ", "; then c; fi", 2},
	{"if a; then b; elif c; then ", "; else d; fi", 2},
	{"if a; then b; elif c; then d; else ", "; fi", 2},
	{"if a; then b; elif c; then d; elif ", "; then e; fi", 3},
	{"if a; then b; else if ", "; then c; fi; fi", 2},
	{"while ", "; do a; done", 1},
	{"while a; do ", "; done", 1},
	{"until ", "; do a; done", 1},
	{"until a; do ", "; done", 1},
	{"for x in; do ", "; done", 1},
	{"for x in a\ndo ", "\ndone", 1},
	{"case a in b) ", ";; esac", 1},
	{"case a in b) c;; (d) ", "\n;;\nesac", 1},
	{"f() { ", "; }", 2},
	{"f() (", ")", 2},
	{"f()\n{ ", "\n}", 2},
}

// within is a text that stands n times within such.
func within(n int, ahead, s, behind string) string {
	return strings.Repeat(ahead, n) + s + strings.Repeat(behind, n)
}

// checkIsOne tells that a text is a script.
func checkIsOne(t *testing.T, s string) {
	t.Helper()
	p, at, e := parse.Parse(s)
	if e != api.OK || at != len(s) || !tree.Is(p) {
		t.Errorf("Parse(%q) = %s, %d, %v", s, short(p), at, e)
	}
}

func TestAsDeepAsMayBe(t *testing.T) {
	for _, x := range around {
		for k := range (api.MaxDepth-1)/x.n + 1 {
			left := api.MaxDepth - 1 - k*x.n
			checkIsOne(t, within(left, "{ ", within(k, x.ahead, "a", x.behind), "; }"))
			checkIsOne(t, within(k, x.ahead, within(left, "(", "case a in esac", ")"), x.behind))
			checkIsOne(t, within(k, x.ahead, within(left, "(", "! x=1 >a | 'b'", ")"), x.behind))
		}
	}
}

func TestTooDeep(t *testing.T) {
	// Whatever stands where a command is to begin is too deep there, also what would not fit, and whatever stands behind.
	cores := []string{"a", "a b >c", "x=1", "'a'", "$x", ">a", "f() (a)", "f(", "(a)", "{ a; }", "{", "(", "if a; then b; fi", "case a in esac", "while", "until", "for", "case", "for x in b; do c; done", ";", "&&", "||", "|", ")", "}", "then", "elif", "else", "fi", "do", "done", "in", "esac", ";;", "<", ">>", "", "a ;; b", "a )", "a; then", "a )( ; }"}
	for _, x := range around {
		for k := range (api.MaxDepth-1)/x.n + 1 {
			left := api.MaxDepth - k*x.n
			for i, core := range cores {
				// Line feeds and a ! stand ahead of where a command is to begin.
				space := []string{"", "\n", "\n\n # x\n ", "! ", "\n! "}[(i+k)%5]
				s := strings.Repeat(x.ahead, k) + strings.Repeat("( ", left) + space
				checkErr(t, s+core, len(s), api.ErrLimit)
				checkErr(t, s+core+strings.Repeat(")", left)+strings.Repeat(x.behind, k), len(s), api.ErrLimit)
			}
		}
	}
	// A second ! is not taken, so a command is to begin there.
	s := strings.Repeat("{ ", api.MaxDepth) + "! "
	checkErr(t, s+"! a", len(s), api.ErrLimit)
}

// tooDeep holds texts within so many groups against ErrLimit at the byte at which each has a ^.
func tooDeep(t *testing.T, groups int, l ...string) {
	t.Helper()
	for _, s := range l {
		ahead, behind, ok := strings.Cut(s, "^")
		if !ok {
			t.Fatalf("%q tells no place", s)
		}
		ahead = strings.Repeat("{ ", groups) + ahead
		checkErr(t, ahead+behind, len(ahead), api.ErrLimit)
	}
}

func TestWhereItIsTooDeep(t *testing.T) {
	last := api.MaxDepth - 1
	tooDeep(t, api.MaxDepth, "^a", "\n\n^a", "^;", "^", "\n^", "^}", "! ^a", "! ^! a", "! ^", "! ^;")
	tooDeep(t, last, "{ ^a; }", "(^a)", "( ^)", "{ ^}", "{ ^", "(\n ^)", "a; (^b)", "a && { ^b; }", "a | (^b)", "! (^a)", "a; b; (! ^c)")
	tooDeep(t, last, "if ^a; then b; fi", "if ^", "if ^fi", "if\n^a", "while ^a; do b; done", "while ^do", "until ^a; do b; done", "until\n\n^;")
	tooDeep(t, last, "for x in; do ^a; done", "for x in a b\ndo ^done", "for x in; do\n^", "case a in b) ^c;; esac", "case a in b) ^;;", "case a in (b|c)\n\n^esac")
	tooDeep(t, last, "f() ^{ a; }", "f()\n\n^(a)", "f() ^a", "f() ^;", "f() ^", "f()\n^", "f() ^g() { a; }", "f() ^}", "f() ^if a; then b; fi", "a; f() ^{ b; }", "! f() ^(a)")
	tooDeep(t, last-1, "f() { ^a; }", "f() (^a)", "f() { ^}", "f() {\n^;", "if a; then b; elif ^c; then d; fi", "if a; then b; elif ^", "if a; then b; elif\n^then", "if { ^a; }; then b; fi", "if a; then { ^b; }; fi", "if a; then b; else { ^c; }; fi", "while a; do (^b) done", "case a in b) c;; d) (^e);; esac")
	tooDeep(t, last-2, "if a; then b; elif c; then d; elif ^e; then a; fi", "if a; then b; elif (^c); then d; fi", "if a; then b; elif c; then (^d) fi", "if a; then b; elif c; then d; else { ^e; }; fi", "f() { (^a) }", "f() { g() ^{ a; }; }")
	// What has no command within may stand there; what does not fit ahead of one is told first.
	checkIsOne(t, within(last, "{ ", "case a in esac", "; }"))
	checkIsOne(t, within(last, "{ ", "for=1 if=2 'f' >while", "; }"))
	for s, at := range map[string]int{"f(": 2, "f(a": 2, "for 1": 4, "for x do": 6, "for x in | (a": 9, "case a b": 7, "case a in b c": 12, "! !": 2, "a | !": 4, "a ;;": 2, "a; }; )": 6, "case a in b; c": 11, "then": 0, ">a {": 3} {
		checkErr(t, strings.Repeat("{ ", last)+s, 2*last+at, api.ErrForm)
	}
	// The first of both errors is told, from the left.
	checkErr(t, "; "+strings.Repeat("{ ", api.MaxDepth), 0, api.ErrForm)
	checkErr(t, "a; ) "+strings.Repeat("(", 2*api.MaxDepth), 3, api.ErrForm)
	checkErr(t, within(api.MaxDepth, "{ ", "a", "; }")+" )", 2*api.MaxDepth, api.ErrLimit)
	checkErr(t, within(api.MaxDepth, "{ ", "a", "; }")+"; "+within(api.MaxDepth, "{ ", "a", "; }"), 2*api.MaxDepth, api.ErrLimit)
	checkErr(t, within(last, "{ ", "a", "; }")+"; "+within(api.MaxDepth, "{ ", "a", "; }"), 5*last+3+2*api.MaxDepth, api.ErrLimit)
	checkErr(t, strings.Repeat("(", api.MaxText), api.MaxDepth, api.ErrLimit)
	checkErr(t, strings.Repeat("{ ", api.MaxText/2), 2*api.MaxDepth, api.ErrLimit)
	checkErr(t, strings.Repeat("if ", 600), 3*api.MaxDepth, api.ErrLimit)
	checkErr(t, strings.Repeat("f()(", 500), 4*api.MaxDepth/2, api.ErrLimit)
}

func TestHowManyMayStandSideBySide(t *testing.T) {
	// What stands side by side is not within one another, however many there are.
	l := []made{a}
	for range api.MaxNodes - 2 {
		l = append(l, a)
	}
	for _, s := range []string{"a;", "a\n", "a;\n\n"} {
		check(t, strings.Repeat(s, api.MaxNodes-1), op("seq", l...))
		checkErr(t, strings.Repeat(s, api.MaxNodes), 0, api.ErrLimit)
		checkErr(t, strings.Repeat(s, api.MaxText/len(s)), 0, api.ErrLimit)
	}
	check(t, strings.TrimSuffix(strings.Repeat("a|", api.MaxNodes-1), "|"), op("pipe", l...))
	check(t, "! "+strings.TrimSuffix(strings.Repeat("a|", api.MaxNodes-2), "|"), op("not", op("pipe", l[1:]...)))
	checkErr(t, "! "+strings.TrimSuffix(strings.Repeat("a|", api.MaxNodes-1), "|"), 0, api.ErrLimit)
	checkErr(t, strings.TrimSuffix(strings.Repeat("a|", api.MaxNodes), "|"), 0, api.ErrLimit)
	checkErr(t, strings.Repeat("a|", 900)+"a", 0, api.ErrLimit)
	for s, of := range map[string]string{"&&": "and", "||": "or"} {
		n := a
		for range api.MaxNodes/2 - 1 {
			n = op(of, n, a)
		}
		check(t, "a"+strings.Repeat(s+"a", api.MaxNodes/2-1), n)
		check(t, "a"+strings.Repeat(s+"a", api.MaxNodes/2-2)+s+"! a", op(of, n.kids[0], op("not", a)))
		checkErr(t, "a"+strings.Repeat(s+"a", api.MaxNodes/2), 0, api.ErrLimit)
		checkErr(t, "a"+strings.Repeat(s+"a", 666), 0, api.ErrLimit)
	}
}

func TestHowManyNodesThereMayBe(t *testing.T) {
	// Each thing counts by its nodes: with commands beside it there are so many, or one more.
	for s, n := range map[string]int{
		"a": 1, "x=1 a b >c": 1, ">a": 1, "{ a; }": 2, "(a)": 2, "! a": 2, "a && b": 3, "a | b": 3, "a | b | c": 4, "! a | b": 4, "{ a; b; }": 4,
		"if a; then b; fi": 3, "if a; then b; else c; fi": 4, "if a; then b; elif c; then d; fi": 6, "if a; then b; elif c; then d; else e; fi": 7,
		"while a; do b; done": 3, "until a; do b; done": 3, "for x in a b c; do d; done": 2, "case a in esac": 1, "case a in b|c) d;; e) a;; esac": 3, "f() { a; }": 3, "f() (a)": 3, "f() { a; b; }": 5,
	} {
		for k := 1; k <= 22; k += 7 {
			fill := api.MaxNodes - 1 - k*n
			checkIsOne(t, strings.Repeat("a;", fill)+strings.Repeat(s+"\n", k))
			checkIsOne(t, strings.Repeat(s+"\n", k)+strings.Repeat("a;", fill))
			checkErr(t, strings.Repeat("a;", fill+1)+strings.Repeat(s+"\n", k), 0, api.ErrLimit)
			checkErr(t, strings.Repeat(s+"\n", k)+strings.Repeat("a;", fill+1), 0, api.ErrLimit)
			p, _, _ := parse.Parse(strings.Repeat(s+"\n", k) + strings.Repeat("a;", fill))
			if len(p.Nodes) != api.MaxNodes {
				t.Errorf("%q %d times with %d more: %d nodes", s, k, fill, len(p.Nodes))
			}
		}
	}
}

func TestOfAllErrorsThoseOfNodesComeLast(t *testing.T) {
	for _, n := range []int{api.MaxNodes, 400, 900} {
		s := strings.Repeat("a;", n)
		bad(t, s+" ^;", s+"^&& a", s+" ^)", s+"^}", s+" ^done", s+"b (^", s+"b c ^(", s+"{^", s+"(a; ^}", s+"(a; b^", s+"if a; ^fi", s+"! ^", s+"a |^", "^;"+s, "a; ^fi;"+s, "a | ^| b;"+s, s+"a >^", s+"^then")
		bad(t, s+"^'", s+"^&", "; "+s+"^\"", s+"^\xff")
		checkErr(t, s+strings.Repeat("(", api.MaxDepth)+"a", 2*n+api.MaxDepth, api.ErrLimit)
		checkErr(t, s+strings.Repeat("(", api.MaxDepth), 2*n+api.MaxDepth, api.ErrLimit)
		checkErr(t, strings.Repeat("(", api.MaxDepth)+s, api.MaxDepth, api.ErrLimit)
	}
}

func TestEveryCallEnds(t *testing.T) {
	for _, s := range []string{"a", ";", ";;", "\n", "&&", "a&&", "a||\n", "|", "a|", "!", "! ", "(", ")", "()", "f()", "f(){", "f()(", "{", "{ ", "}", "a;}", "<", "<a", ">", ">>", "> >", "if", "if ", "if a;then ", "if a;then b;elif ", "elif ", "else ", "fi;", "while ", "while a;do ", "for ", "for x in ", "for x in a;do ", "case ", "case a in ", "case a in b)", "case a in b)c;;", "b)c;;", "(b|", "esac ", "x=", "x=1 ", "1=", "'", "\"", "$", "${", "${a:-", "$((", "#", "# \n", " ", "\t", "&", "\x00", "\xff", "\u00e9", "a ", "'if' "} {
		for _, times := range []int{1, 2, 3, 19, 20, 21, 40, 100, 333, 666, 2000, 1 << 16} {
			text := strings.Repeat(s, times)
			p, at, e := parse.Parse(text)
			switch {
			case e == api.OK:
				if at != len(text) || !tree.Is(p) {
					t.Errorf("Parse of %q %d times: %d, %s", s, times, at, short(p))
				}
			case at < 0 || at > len(text) || !alike(p, api.Prog{}):
				t.Errorf("Parse of %q %d times: %d, %v, %s", s, times, at, e, short(p))
			}
		}
	}
}

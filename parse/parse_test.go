package parse_test

import (
	"strings"
	"testing"

	"lazarus/api"
	"lazarus/parse"
	"lazarus/tree"
)

func TestExample(t *testing.T) {
	check(t, "a; b && c", op("seq", a, op("and", b, c)))
}

func TestLists(t *testing.T) {
	good(t, a, "a", " a", "a ", "\ta\t", "a;", "a ;", "a\n", "\na", "\n\na", "\n\n\na\n\n\n", "a;\n", "a;\n\n", "# x\na", "\n# x\n\n a # y\n# z", "a # b; c", " \n \n a ; \n \n ")
	good(t, op("seq", a, b), "a;b", "a ; b", "a\nb", "a\n\n\nb", "a;\nb", "a;\n\nb", "a;b;", "a;b\n", "a;b;\n\n", "\na;b", "a # x\nb", "a;# x\n\n# y\nb # z\n", "a\n b")
	good(t, op("seq", cmd("a"), cmd("b#")), "a;b#", "a\nb# # x")
	good(t, op("seq", a, b, c), "a;b;c", "a\nb\nc", "a;\nb\n\nc;", "\n\na\nb;c\n")
	good(t, op("seq", a, b, c, d, e), "a;b;c;d;e", "a\nb;c\nd;\ne")
	bad(t, "^", " ^", "\t ^", "\n^", "\n\n^", "# a^", "\n # a\n^", "^;", " ^;", "\n^;", "^;a", "\n\n^; a")
	bad(t, "a; ^;", "a; ^; b", "a\n^;", "a\n^; b", "a;\n^;", "a;\n\n ^; b", "a; # x\n^;", "a;b; ^;", "a;b\n\n^;")
	bad(t, "a^;;", "a^;;b", "a ^;; b", "a; ^;;", "a\n^;;", "^;;", "^;; a")
	bad(t, "a^)", "a ^) b", "a;^)", "a\n^)", "^)", "a;b^)")
	bad(t, "a;^&&b", "a\n^&& b", "a\n^|| b", "a;^|| b", "a\n^| b", "a;^|b")
}

func TestAndOr(t *testing.T) {
	good(t, op("and", a, b), "a&&b", "a && b", "a &&\nb", "a && \n\n\n b", "a&&# x\nb", "\na && b\n", "a && b;")
	good(t, op("or", a, b), "a||b", "a || b", "a ||\nb", "a || \n\n\n b", "a|| # x\n# y\nb", "\na || b\n", "a || b;")
	good(t, op("and", op("and", a, b), c), "a && b && c", "a&&b&&\nc", "a&&\n\nb&&c")
	good(t, op("or", op("or", a, b), c), "a || b || c", "a||b||\nc", "a||\n\nb||c")
	good(t, op("or", op("and", a, b), c), "a && b || c")
	good(t, op("and", op("or", a, b), c), "a || b && c")
	good(t, op("and", op("or", op("or", op("and", a, b), c), d), e), "a && b || c || d && e")
	good(t, op("or", op("or", op("and", op("and", a, b), c), d), e), "a && b && c || d ||\n e")
	bad(t, "^&&", "^&& a", "\n^&& a", "^|| a", "^||", "a &&^", "a ||^", "a && ^", "a && # x^", "a &&\n^", "a ||\n\n^", "a && b ||^")
	bad(t, "a && ^&& b", "a && ^|| b", "a || ^|| b", "a || ^&& b", "a && \n^&& b", "a && ^; b", "a && ^;", "a || \n\n^;", "a && ^| b", "a || ^| b", "a &&^)", "a && ^;; b")
	bad(t, "a\n^&& b", "a\n^|| b", "a &&^&& b", "a ||^|| b", "a &&\n^|| b")
}

func TestPipes(t *testing.T) {
	good(t, op("pipe", a, b), "a|b", "a | b", "a |\nb", "a | \n\n\n b", "a|# x\nb", "\na | b\n", "a|b;")
	good(t, op("pipe", a, b, c), "a|b|c", "a |\nb |\n\nc")
	good(t, op("pipe", a, b, c, d, e), "a|b|c|d|e")
	good(t, op("not", a), "! a", "!\ta", "\n! a\n", "! a;")
	good(t, op("not", op("pipe", a, b)), "! a | b", "! a |\nb")
	good(t, op("not", op("pipe", a, b, c)), "! a | b | c")
	good(t, op("not", op("group", op("not", a))), "! { ! a; }")
	good(t, op("not", op("sub", op("not", a))), "! (! a)", "!(! a)")
	good(t, op("not", op("sub", a)), "!(a)")
	good(t, op("not", a.goes(">", "b")), "! a >b", "! >b a")
	good(t, op("not", op("pipe", op("group", a), b)), "! { a; } | b")
	good(t, cmd("!a"), "!a")
	good(t, cmd("a !"), "a !")
	good(t, cmd("'!' a"), "'!' a", "\\! a")
	bad(t, "^|", "^| a", "\n^| a", "a |^", "a | ^", "a |\n^", "a | b |^", "a | ^| b", "a |\n^| b", "a | ^; b", "a |^)", "a | ^&& b", "a | ^|| b", "a |^;;", "a\n^| b")
	bad(t, "!^", "! ^", "!^\na", "! ^;", "! ^; a", "! ^| a", "! ^&& a", "!^)", "! ^! a", "! ^! ! a", "a | ^! b", "a |\n^! b", "a | b | ^!", "! a | ^! b", "! ^then", "! ^}", ">a ^!")
}

// binding is how tightly each of these binds; those of one number stand side by side.
var binding = map[string]int{"|": 2, "&&": 1, "||": 1, ";": 0, "\n": 0}

var nodeOf = map[string]string{"|": "pipe", "&&": "and", "||": "or", ";": "seq", "\n": "seq"}

// three is what `a x b y c` is.
func three(x, y string) made {
	switch {
	case binding[x] == binding[y] && binding[x] == 1, binding[x] > binding[y]:
		return op(nodeOf[y], op(nodeOf[x], a, b), c)
	case binding[x] == binding[y]:
		return op(nodeOf[x], a, b, c)
	}
	return op(nodeOf[x], a, op(nodeOf[y], b, c))
}

func TestWhatBindsCloser(t *testing.T) {
	for x := range binding {
		for y := range binding {
			xOp, yOp := nodeOf[x], nodeOf[y]
			check(t, "a "+x+" b "+y+" c", three(x, y))
			for _, s := range []struct{ open, shut, op string }{{"{ ", "; }", "group"}, {"(", ")", "sub"}} {
				check(t, s.open+"a "+x+" b "+y+" c"+s.shut, op(s.op, three(x, y)))
				check(t, s.open+"a "+x+" b"+s.shut+y+" c", op(yOp, op(s.op, op(xOp, a, b)), c))
				check(t, "a "+x+s.open[:1]+" b "+y+" c"+s.shut, op(xOp, a, op(s.op, op(yOp, b, c))))
				check(t, "a "+x+s.open+"b"+s.shut+y+" c", strip(three(x, y), s.op))
			}
		}
		// A ! is around all of its pipe, and no more.
		if x == "|" {
			check(t, "! a | b", op("not", op("pipe", a, b)))
			bad(t, "a | ^! b")
			continue
		}
		xOp := nodeOf[x]
		check(t, "! a "+x+" b", op(xOp, op("not", a), b))
		check(t, "a "+x+" ! b", op(xOp, a, op("not", b)))
		check(t, "! a | b "+x+" ! c | d", op(xOp, op("not", op("pipe", a, b)), op("not", op("pipe", c, d))))
		check(t, "! { a "+x+" b; }", op("not", op("group", op(xOp, a, b))))
		check(t, "! (a "+x+" b)", op("not", op("sub", op(xOp, a, b))))
	}
	check(t, "a; b && c | d || ! e\na", op("seq", a, op("or", op("and", b, op("pipe", c, d)), op("not", e)), a))
	check(t, "a | b && c | d; e || a", op("seq", op("and", op("pipe", a, b), op("pipe", c, d)), op("or", e, a)))
	check(t, "! a && ! b || ! c", op("or", op("and", op("not", a), op("not", b)), op("not", c)))
}

// strip has b stand within a node of that Op.
func strip(m made, of string) made {
	if m.Op == "cmd" && m.Words[0].Parts[0].Text == "b" {
		return op(of, m)
	}
	l := m.kids
	m.kids = nil
	for _, kid := range l {
		m.kids = append(m.kids, strip(kid, of))
	}
	return m
}

func TestOneCommandIsNothingElse(t *testing.T) {
	for s, want := range map[string]string{"a": "cmd", "a;": "cmd", "{ a; }": "group", "(a)": "sub", "if a; then b; fi": "if", "while a; do b; done\n": "while", "for x in; do a; done;": "for", "\ncase a in esac": "case", "f() (a)": "fun"} {
		p, _, _ := parse.Parse(s)
		if len(p.Nodes) == 0 || p.Nodes[0].Op != want {
			t.Errorf("Parse(%q) = %s, not of %s", s, short(p), want)
		}
	}
}

func TestGroupsAndSubs(t *testing.T) {
	good(t, op("group", a), "{ a; }", "{ a\n}", "{\na; }", "{\n\na\n\n}", "{ a;\n\n}", "{ # x\na # y\n}", "{\ta;}", "{ a;}")
	good(t, op("sub", a), "(a)", "( a )", "(a;)", "(\na\n)", "( a;\n\n)", "(# x\na # y\n)")
	good(t, op("group", op("seq", a, b)), "{ a; b; }", "{ a\nb\n}")
	good(t, op("sub", op("seq", a, b)), "(a; b)", "(a\nb)", "(a;b;)")
	good(t, op("sub", op("sub", a)), "((a))", "( ( a ) )")
	good(t, op("group", op("group", a)), "{ { a; }; }", "{ { a; } }")
	good(t, op("group", op("sub", a)), "{ (a); }", "{ (a) }", "{ (a)\n}")
	good(t, op("sub", op("group", a)), "({ a; })", "({ a; };)")
	good(t, op("seq", op("group", a), op("sub", b)), "{ a; }; (b)", "{ a; }\n(b)")
	good(t, op("pipe", op("group", a), op("sub", b)), "{ a; } | (b)", "{ a; }|(b)")
	good(t, op("and", op("sub", a), op("group", b)), "(a) && { b; }", "(a)&&{ b;}")
	bad(t, "{^", "{ ^", "{\n^", "{ ^; a; }", "{ ^}", "{\n^}", "{ a^", "{ a;^", "{ a }^", "{ a; ^)", "{ a; } ^}", "{ a; } ^b", "{ a; } ^{ b; }", "{ a; } ^(b)", "{ a; } ^x=1", "{ a; } ^if", "{ a; ^; }", "{ a; ^done", "{ a; ^fi }", "{ a^;;", "{(^)", "{ a; }^(")
	bad(t, "(^", "( ^", "(^)", "( ^)", "(\n^)", "(^;", "(a^", "(a;^", "(a; ^}", "(a)^)", "(a) ^b", "(a) ^(b)", "(a)^{", "(a) ^x=1", "(a) ^}", "(a; ^;)", "(a^;;)", "(^&& a)", "(a (^b))", "(a b ^(c))")
	bad(t, "{a; ^}", "^} a", "a; ^}", "a\n^}", "(a; ^done)", "'{' a; ^}", "\\{ a; ^}", "{ a; '}'^", "{ a; \\}^")
}

func TestIf(t *testing.T) {
	good(t, op("if", a, b), "if a; then b; fi", "if a\nthen b\nfi", "if\n\na;\nthen\n\nb;\n\nfi", "if a;then b;fi", "if # x\na # y\nthen # z\nb # u\nfi # v")
	good(t, op("if", a, b, c), "if a; then b; else c; fi", "if a\nthen b\nelse c\nfi", "if a;then\nb;\nelse\n\nc;\nfi")
	good(t, op("if", a, b, op("if", c, d)), "if a; then b; elif c; then d; fi", "if a\nthen b\nelif\n\nc\nthen\nd\nfi")
	good(t, op("if", a, b, op("if", c, d, e)), "if a; then b; elif c; then d; else e; fi")
	good(t, op("if", a, b, op("if", c, d, op("if", e, a))), "if a; then b; elif c; then d; elif e; then a; fi")
	good(t, op("if", a, b, op("if", c, d, op("if", e, a, b))), "if a; then b; elif c; then d; elif e; then a; else b; fi")
	// An if within an else has a fi of its own.
	good(t, op("if", a, b, op("if", c, d)), "if a; then b; else if c; then d; fi; fi")
	good(t, op("if", a, b, op("if", c, d, e)), "if a; then b; else if c; then d; else e; fi; fi", "if a; then b; else if c; then d; else e; fi fi")
	good(t, op("if", op("if", a, b), op("if", c, d), op("if", e, a)), "if if a; then b; fi; then if c; then d; fi; else if e; then a; fi; fi", "if if a; then b; fi then if c; then d; fi else if e; then a; fi fi")
	good(t, op("if", op("seq", a, b), op("and", c, d), op("not", e)), "if a; b; then c && d; else ! e; fi")
	good(t, op("pipe", op("if", a, b), op("if", c, d)), "if a; then b; fi | if c; then d; fi")
	good(t, op("if", op("sub", a), op("sub", b), op("sub", c)), "if (a) then (b) else (c) fi", "if(a)then(b)else(c)fi")
	bad(t, "if^", "if ^", "if\n^", "if ^; a", "if ^then a", "if a^", "if a;^", "if a; ^fi", "if a; ^else b; fi", "if a; ^elif b; then c; fi", "if a; ^do b; done", "if a; ^}", "if a^)", "if a^;;")
	bad(t, "if a then b; ^fi", "if a; then^", "if a; then ^fi", "if a; then ^;", "if a; then ^else b; fi", "if a; then b^", "if a; then b;^", "if a; then b; ^then", "if a; then b; ^done", "if a; then b fi^", "if a; then b else c; ^}")
	bad(t, "if a; then b; else^", "if a; then b; else ^fi", "if a; then b; else c^", "if a; then b; else c; ^else d; fi", "if a; then b; else c; ^elif d; then e; fi", "if a; then b; else c; ^then", "if a; then b; else ^; c")
	bad(t, "if a; then b; elif^", "if a; then b; elif ^then c; fi", "if a; then b; elif c; ^fi", "if a; then b; elif c; then ^fi", "if a; then b; elif c; then d^", "if a; then b; elif c; then d; else e; ^elif a; then b; fi", "if a; then b; elif c; then d; else e; ^else a; fi")
	bad(t, "if a; then b; fi ^c", "if a; then b; fi ^fi", "if a; then b; fi; ^fi", "if a; then b; elif c; then d; fi; ^fi", "if a; then b; fi ^(c)", "if a; then b; fi^(", "^then a", "^else", "^elif a", "^fi", "a; ^then", "a\n^elif", "a && ^else", "a | ^fi")
}

func TestWhileAndUntil(t *testing.T) {
	for _, w := range []string{"while", "until"} {
		good(t, op(w, a, b), w+" a; do b; done", w+" a\ndo b\ndone", w+"\n\na;\n\ndo\n\nb;\n\ndone", w+" a;do b;done", w+" # x\na # y\ndo # z\nb # u\ndone")
		good(t, op(w, op("seq", a, b), op("seq", c, d)), w+" a; b; do c; d; done", w+" a\nb\ndo c\nd\ndone")
		good(t, op(w, op(w, a, b), op(w, c, d)), w+" "+w+" a; do b; done; do "+w+" c; do d; done; done", w+" "+w+" a; do b; done do "+w+" c; do d; done done")
		good(t, op("pipe", op(w, a, b), c), w+" a; do b; done | c", w+" a\ndo b\ndone|\nc")
		good(t, op(w, op("not", a), op("or", b, c)), w+" ! a; do b || c; done")
		good(t, op(w, op("sub", a), op("sub", b)), w+" (a) do (b) done", w+"(a)do(b)done")
		bad(t, w+"^", w+"\n^", w+" ^; a", w+" ^do a; done", w+" a^", w+" a;^", w+" a; ^done", w+" a; ^then", w+" a^)", w+" a do b; ^done", w+" a; do^", w+" a; do ^;", w+" a; do ^done", w+" a; do b^", w+" a; do b;^", w+" a; do b done^", w+" a; do b; ^do", w+" a; do b; ^fi", w+" a; do b; ^}", w+" a; do b; done ^c", w+" a; do b; done ^done", w+" a; do b; done; ^done", w+" a; do b; done^(", w+" a; ^in b")
	}
	bad(t, "^do a; done", "^done", "a; ^do", "a | ^do", "a && ^done")
}

func TestFor(t *testing.T) {
	good(t, each("x", "", a), "for x in; do a; done", "for x in ;do a;done", "for x in\ndo a\ndone", "for x in;\n\ndo\n\na;\n\ndone", "for x in\n\n\ndo a; done", "for x in # y\ndo a; done")
	good(t, each("x", "b", a), "for x in b; do a; done", "for x in b\ndo a\ndone", "for x in b;\n\ndo a; done", "for x in b # c\n# d\ndo a; done")
	good(t, each("x", "b c", a), "for x in b c; do a; done", "for x in b\tc\n\n\ndo a; done")
	good(t, each("x", "b c d e", a), "for x in b c d e; do a; done")
	good(t, each("x", "if then elif else fi while until do done for in case esac { } !", a), "for x in if then elif else fi while until do done for in case esac { } !; do a; done")
	good(t, each("x", "do", a), "for x in do; do a; done", "for x in do\ndo a; done")
	good(t, each("x", "y=1 1= $z 'a b' \"$@\" $((1+1))", a), "for x in y=1 1= $z 'a b' \"$@\" $((1+1)); do a; done")
	good(t, each("abcdefghijkl", "", a), "for abcdefghijkl in; do a; done")
	good(t, each("_Z9", "", a), "for _Z9 in; do a; done")
	for _, s := range []string{"if", "then", "elif", "else", "fi", "while", "until", "do", "done", "for", "in", "case", "esac"} {
		check(t, "for "+s+" in "+s+"; do a; done", each(s, s, a))
	}
	good(t, each("x", "b", op("seq", a, op("and", b, c))), "for x in b; do a; b && c; done")
	good(t, each("x", "a", each("y", "b", c)), "for x in a; do for y in b; do c; done; done", "for x in a; do for y in b; do c; done done")
	good(t, op("pipe", each("x", "", a), b), "for x in; do a; done | b")
	good(t, each("x", "in", a), "for x in in; do a; done")
	bad(t, "for^", "for^\nx in a; do b; done", "for ^; do a; done", "for ^1 in a; do b; done", "for ^$x in a; do b; done", "for ^'x' in a; do b; done", "for ^\"x\" in a; do b; done", "for ^\\x in a; do b; done", "for ^x'y' in a; do b; done", "for ^a=b in c; do d; done", "for ^{ in a; do b; done", "for ^} in a; do b; done", "for ^! in a; do b; done", "for ^abcdefghijklm in a; do b; done", "for ^x-y in a; do b; done", "for ^\u00e9 in a; do b; done", "for ^(x) in a", "for ^> in a", "for ^'' in a")
	bad(t, "for x^", "for x^; do a; done", "for x^\ndo a; done", "for x^\nin a; do b; done", "for x ^do a; done", "for x ^a in b; do c; done", "for x ^'in' a; do b; done", "for x ^i\\n a; do b; done", "for x ^in= a; do b; done", "for in ^a; do b; done", "for x^(")
	bad(t, "for x in^", "for x in a^", "for x in a ^| b", "for x in a ^&& b", "for x in a^)", "for x in a ^> b; do c; done", "for x in a ^(b)", "for x in^;;", "for x in a^;; do b; done", "for x in a do b; ^done", "for x in;^", "for x in; ^; do a; done", "for x in^;; do a; done", "for x in\n^; do a; done", "for x in; ^done", "for x in; ^a", "for x in; ^then", "for x in; ^'do' a; done")
	bad(t, "for x in; do^", "for x in; do ^done", "for x in; do ^; a", "for x in; do a^", "for x in; do a;^", "for x in; do a done^", "for x in; do a; ^fi", "for x in; do a; ^do", "for x in; do a; done ^b", "for x in; do a; done ^done", "for x in; do a; done^(")
}

func TestCase(t *testing.T) {
	good(t, choice("a"), "case a in esac", "case a in\nesac", "case a in\n\n\nesac", "case a in # x\n# y\nesac")
	good(t, choice("a").has("b", c), "case a in b) c;; esac", "case a in b)c;;esac", "case a in (b) c;; esac", "case a in ( b ) c ;; esac", "case a in(b)c;;esac", "case a in\nb) c;;\nesac", "case a in\n\n(b)\n\nc\n\n;;\n\nesac", "case a in b) c; ;; esac", "case a in b) c\n;; esac", "case a in b) c;\n\n;; esac", "case a in # x\nb) # y\nc;; # z\nesac")
	good(t, choice("a").has("b", c).has("d", e), "case a in b) c;; d) e;; esac", "case a in (b) c;; (d) e;; esac", "case a in b) c;; (d) e;; esac", "case a in (b) c;; d) e;; esac", "case a in\nb)\nc\n;;\nd)\ne\n;;\nesac", "case a in b)c;;d)e;;esac", "case a in b) c;;\n\n\nd) e;;\n\n\nesac")
	good(t, choice("a").has("b", c).has("b", c).has("b", c), "case a in b) c;; b) c;; b) c;; esac")
	good(t, choice("a").has("b c", d), "case a in b|c) d;; esac", "case a in (b | c) d;; esac", "case a in b |c ) d;; esac")
	good(t, choice("a").has("b c d e", a), "case a in b|c|d|e) a;; esac", "case a in (b|c|d|e) a;; esac")
	good(t, choice("a").has("b c", op("seq", d, e)).has("e", op("and", a, b)), "case a in b|c) d; e;; e) a && b;; esac", "case a in\n b|c)\n d\n e\n ;;\n e) a &&\n b\n ;;\n esac")
	good(t, choice("a").has("b", op("pipe", c, d)), "case a in b) c|d;; esac")
	good(t, choice("\"$x\"'y z'").has("$x \"a b\" *.? [!a]", a), "case \"$x\"'y z' in $x|\"a b\"|*.?|[!a]) a;; esac")
	good(t, choice("x=1").has("y=2 z=", a), "case x=1 in y=2|z=) a;; esac")
	good(t, choice("a").has("b", choice("c").has("d", e)), "case a in b) case c in d) e;; esac;; esac", "case a in b) case c in d) e;; esac; ;; esac", "case a in b) case c in d) e;; esac\n;; esac")
	good(t, op("pipe", choice("a"), b), "case a in esac | b", "case a in esac|b")
	for _, s := range reserved {
		check(t, "case "+s+" in ("+s+") a;; esac", choice(s).has(s, a))
		check(t, "case "+s+" in a|"+s+") a;; esac", choice(s).has("a "+s, a))
		check(t, "case a in ("+s+"|"+s+") a;; esac", choice("a").has(s+" "+s, a))
		if s == "esac" {
			continue
		}
		check(t, "case "+s+" in "+s+") a;; "+s+"|a) b;; esac", choice(s).has(s, a).has(s+" a", b))
	}
	// What ends a case where a kid may begin is no pattern there; in quotes it is.
	good(t, choice("a").has("'esac'", b), "case a in 'esac') b;; esac")
	good(t, choice("a").has("esac''", b), "case a in esac'') b;; esac")
	good(t, choice("a").has("'' esac", b), "case a in ''|esac) b;; esac")
	good(t, op("pipe", choice("a"), cmd("b")), "case a in esac | b")
	bad(t, "case a in esac^) b;; esac", "case a in esac | b^) c;; esac", "case a in b) c;; esac^) d;; esac")
	bad(t, "case^", "case ^; in esac", "case^\na in esac", "case ^(a) in esac", "case ^> in esac", "case^)", "case a^", "case a^; in b) c;; esac", "case a^\nin esac", "case a ^b in esac", "case a ^'in' esac", "case a ^esac", "case a^) b;;", "case ^|", "case in ^a) b;; esac", "case in ^a")
	bad(t, "case a in^", "case a in\n^", "case a in ^; esac", "case a in\n^; esac", "case a in ^) b;; esac", "case a in ^| b) c;; esac", "case a in ^;; esac", "case a in ^> b", "case a in (^) b;; esac", "case a in (^\nb) c;; esac", "case a in ( ^(b) c;; esac", "case a in (^| b) c;; esac", "case a in (^", "case a in ( esac^")
	bad(t, "case a in b^", "case a in b ^c) d;; esac", "case a in b^\n) c;; esac", "case a in b^; c", "case a in b ^(c)", "case a in b|^) c;; esac", "case a in b|^", "case a in b|^\nc) d;; esac", "case a in b^|| c) d;; esac", "case a in b| ^| c) d;; esac", "case a in b|^(c) d;; esac", "case a in b|c ^d) e;; esac", "case a in b ^>c) d;; esac", "case a in b ^&& c) d;; esac")
	bad(t, "case a in b)^", "case a in b) ^;; esac", "case a in b)\n^;; esac", "case a in b) ^; c;; esac", "case a in b) ^esac", "case a in b) c^", "case a in b) c;^", "case a in b) c; ^esac", "case a in b) c\n^esac", "case a in b) c esac^", "case a in b) c;\n^; esac", "case a in b) c^) d;; esac", "case a in b) c; ^}", "case a in b) c; ^done")
	bad(t, "case a in b) c;;^", "case a in b) c;;\n^", "case a in b) c;; ^;; esac", "case a in b) c;; ^; esac", "case a in b) c;; d^", "case a in b) c;; d) e; ^esac", "case a in b) c;; esac ^d", "case a in b) c;; esac ^esac", "case a in b) c;; esac; ^esac", "case a in b) c;; done^", "case a in b) c;; ^) d;; esac", "case a in esac^(")
	bad(t, "^esac", "a; ^esac", "^in a", "a; ^in", "a && ^in")
}

func TestFun(t *testing.T) {
	good(t, fun("f", op("group", a)), "f() { a; }", "f(){ a; }", "f ( ) { a; }", "f\t(\t)\t{ a; }", "f()\n{ a; }", "f()\n\n\n{\na\n}", "f() # x\n# y\n{ a; }")
	good(t, fun("f", op("sub", a)), "f() (a)", "f()(a)", "f ( ) ( a )", "f()\n(a)", "f()\n\n\n(\na\n)")
	good(t, fun("f", op("group", op("seq", a, b))), "f() { a; b; }")
	good(t, fun("f", op("group", fun("g", op("sub", a)))), "f() { g() (a); }", "f() { g() (a) }")
	good(t, op("seq", fun("f", op("group", a)), cmd("f b")), "f() { a; }; f b", "f() { a; }\nf b")
	good(t, op("and", fun("f", op("group", a)), b), "f() { a; } && b")
	good(t, op("pipe", a, fun("f", op("group", b)), c), "a | f() { b; } | c")
	good(t, op("not", fun("f", op("sub", a))), "! f() (a)")
	good(t, op("group", fun("f", op("sub", a))), "{ f() (a) }", "{ f() (a); }")
	good(t, fun("f", op("group", a.goes(">", "b"))), "f() { a >b; }")
	good(t, fun("abcdefghijkl", op("sub", a)), "abcdefghijkl() (a)")
	good(t, fun("_Z9", op("sub", a)), "_Z9() (a)")
	good(t, fun("echo", op("sub", a)), "echo() (a)")
	good(t, fun("iff", op("sub", a)), "iff() (a)")
	bad(t, "f(^", "f( ^", "f(^\n)", "f(^a", "f(^a)", "f(^;", "f(^(", "f ( ^a ) { b; }", "f()^", "f() ^", "f()\n^", "f() ^;", "f() ^a", "f()\n^a", "f() ^)", "f()(^)", "f() ^}", "f() ^'{' a; }", "f() ^\\{ a; }", "f() ^{a; }", "f() ^if a; then b; fi", "f() ^while a; do b; done", "f() ^for x in; do a; done", "f() ^case a in esac", "f() ^g() { a; }", "f() ^! { a; }", "f() ^>a { b; }", "f() ^x=1", "f() ^&& a")
	bad(t, "f() {^", "f() { ^}", "f() { a^", "f() { a; ^)", "f() (^)", "f() (a^", "f() (a; ^}", "f() { a; } ^>b", "f() { a; } ^<b", "f() { a; } ^>>b", "f() (a) ^>b", "f() { a; } ^b", "f() { a; } ^{ b; }", "f() (a) ^(b)")
	bad(t, "'f'^() { a; }", "f''^() { a; }", "\\f^() { a; }", "$f^() { a; }", "1^() { a; }", "a=b^() { c; }", "a=^() { c; }", "f-g^() { a; }", "\u00e9^() { a; }", "abcdefghijklm^() { a; }", "''^()", "$((1))^() { a; }", "a b^() { c; }", "a (^", "a b ^(", "a b ^(c)", "x=1 f^() { a; }", ">a f^() { b; }", "f >a ^() { b; }")
	bad(t, "^then() { a; }", "^elif() { a; }", "^else() { a; }", "^fi() { a; }", "^do() { a; }", "^done() { a; }", "^in() { a; }", "^esac() { a; }", "^}() { a; }", "if(^) { a; }", "while(^) { a; }", "until(^) { a; }", "for^() { a; }", "case^() { a; }", "{(^) { a; }", "!(^) { a; }")
}

func TestRedirs(t *testing.T) {
	for _, s := range []string{"<", ">", ">>"} {
		good(t, a.goes(s, "b"), "a "+s+"b", "a "+s+" b", "a"+s+"b", s+"b a", s+" b\ta", "\n"+s+" b a;")
		good(t, bare.goes(s, "b"), s+"b", s+" b", s+"b;", "\n"+s+"b\n")
		good(t, cmd("a c").goes(s, "b"), "a c "+s+"b", "a "+s+"b c", s+"b a c", "a "+s+" b c")
		for _, r := range reserved {
			check(t, "a "+s+r, a.goes(s, r))
			check(t, s+" "+r, bare.goes(s, r))
		}
		good(t, a.goes(s, "x=1"), "a "+s+"x=1", s+"x=1 a")
		good(t, a.goes(s, "$x\"b c\"'d'"), "a "+s+"$x\"b c\"'d'")
		good(t, bare.goes(s, "b").gives("x", lit("1")), s+"b x=1", "x=1 "+s+"b")
		bad(t, "a "+s+"^", "a "+s+" ^", "a "+s+"^\nb", "a "+s+" ^; b", "a "+s+" ^| b", "a "+s+"^&& b", "a "+s+" ^|| b", "a "+s+"^)", "a "+s+" ^(b)", "a "+s+"^;;", "a "+s+" # b^", s+"^", s+"^;", "{ a; } "+s+"^", "{ a; } "+s+" ^;", "(a) "+s+"^\n", "x=1 "+s+"^")
		for _, r := range []string{"<", ">", ">>"} {
			bad(t, "a "+s+" ^"+r+" b", s+" ^"+r)
			good(t, cmd("a d").goes(s, "b").goes(r, "c"), "a "+s+"b "+r+"c d", s+"b a "+r+"c d", "a "+s+"b d "+r+"c", s+"b "+r+"c a d", "a d"+s+"b"+r+"c")
			good(t, bare.goes(s, "b").goes(r, "c"), s+"b "+r+"c", s+"b"+r+"c")
		}
		// Behind each command that may have them: none, one, two.
		for text, want := range compounds {
			check(t, text, want)
			check(t, text+s+"b", want.goes(s, "b"))
			check(t, text+" "+s+" b "+s+"c", want.goes(s, "b").goes(s, "c"))
			check(t, text+" >in <out >>done", want.goes(">", "in").goes("<", "out").goes(">>", "done"))
			check(t, "a | "+text+" "+s+"b | c", op("pipe", a, want.goes(s, "b"), c))
			check(t, "! "+text+" "+s+"b && c", op("and", op("not", want.goes(s, "b")), c))
			check(t, "{ "+text+" "+s+"b; } "+s+"c", op("group", want.goes(s, "b")).goes(s, "c"))
			bad(t, text+" "+s+"b ^c", text+" "+s+"b ^}", text+" "+s+"b ^x=1", text+" "+s+"b ^(c)", text+" "+s+"^", text+" "+s+"b "+s+"^")
			for _, r := range reserved {
				bad(t, text+" "+s+"b ^"+r)
			}
		}
	}
	good(t, a.goes(">", "b").goes("<", "c").goes(">>", "d").goes(">", "e"), "a >b <c >>d >e", ">b <c a >>d >e", "a>b<c>>d>e")
	bad(t, "a >>^>b", "a >^<b", "f() { a; } ^>b", "f() (a) ^<b", "a | f() { b; } ^>>c", "f >b ^() { a; }")
	// The redirs of an elif are those of its if, behind the fi.
	good(t, op("if", a, b, op("if", c, d)).goes(">", "e"), "if a; then b; elif c; then d; fi >e")
}

// compounds are those commands that have redirs behind them.
var compounds = map[string]made{
	"{ a; }":                           op("group", a),
	"(a)":                              op("sub", a),
	"if a; then b; fi":                 op("if", a, b),
	"if a; then b; else c; fi":         op("if", a, b, c),
	"if a; then b; elif c; then d; fi": op("if", a, b, op("if", c, d)),
	"if a; then b; elif c; then d; else e; fi":    op("if", a, b, op("if", c, d, e)),
	"while a; do b; done":                         op("while", a, b),
	"until a; do b; done":                         op("until", a, b),
	"for x in a b; do c; done":                    each("x", "a b", c),
	"for x in\ndo c\ndone":                        each("x", "", c),
	"case a in esac":                              choice("a"),
	"case a in b) c;; (d|e) a;; esac":             choice("a").has("b", c).has("d e", a),
	"{ { a; }; }":                                 op("group", op("group", a)),
	"for x in a; do while b; do c; done >d; done": each("x", "a", op("while", b, c).goes(">", "d")),
}

func TestReservedWords(t *testing.T) {
	for _, s := range reserved {
		half := s[:1] + "'" + s[1:] + "'"
		if s[:1] == "!" || s[:1] == "{" || s[:1] == "}" {
			half = s + "''"
		}
		// Within quotes, in part quoted, or with other letters, it is a word like others.
		for _, w := range []string{"'" + s + "'", "\"" + s + "\"", "\\" + s, half, "''" + s, s + "\"\"", s + "x", "x" + s, s + "$x", s + "=", strings.ToUpper(s) + "X"} {
			if anAssign.MatchString(w) {
				continue
			}
			good(t, cmd(w), w, "\n"+w+"\n", w+";")
			good(t, cmd(w+" a"), w+" a")
			good(t, cmd(w).goes(">", "b"), ">b "+w, w+" >b")
			good(t, op("seq", a, cmd(w)), "a; "+w)
			good(t, op("group", cmd(w)), "{ "+w+"; }")
			good(t, op("not", cmd(w)), "! "+w)
		}
		// As an argument, behind an assign, behind both.
		good(t, cmd("a "+s), "a "+s, "a "+s+";")
		good(t, cmd("a "+s+" b"), "a "+s+" b")
		good(t, cmd("a "+s+" "+s), "a "+s+" "+s)
		good(t, cmd("a "+s).goes(">", "b"), "a >b "+s, ">b a "+s)
		good(t, cmd("'' "+s), "'' "+s)
		good(t, cmd("$x "+s), "$x "+s)
		good(t, cmd(s).gives("x", lit("1")), "x=1 "+s)
		good(t, cmd(s+" "+s).gives("x", lit("1")), "x=1 "+s+" "+s)
		good(t, cmd(s).gives("x", lit("1")).goes(">", "b"), "x=1 >b "+s, ">b x=1 "+s, "x=1 "+s+" >b")
		good(t, bare.gives("x", lit(s)), "x="+s)
		// Behind redirs alone it may not stand.
		bad(t, ">b ^"+s, ">b ^"+s+" a", "<b >>c ^"+s, "a; >b ^"+s, "a | >b ^"+s+" c", "{ >b ^"+s+"; }", "! >b ^"+s)
	}
	for _, s := range []string{"then", "elif", "else", "fi", "do", "done", "in", "esac", "}"} {
		bad(t, "^"+s, "\n^"+s, " ^"+s+" a", "^"+s+";", "a; ^"+s, "a\n^"+s, "a;\n\n^"+s+" b", "a && ^"+s, "a || ^"+s, "a | ^"+s, "! ^"+s, "{ ^"+s, "(^"+s+")", "if ^"+s, "while ^"+s, "until ^"+s, "^"+s+" >a", "^"+s+"(")
		if s != "then" {
			bad(t, "if a; ^"+s)
		}
		if s != "do" {
			bad(t, "while a; ^"+s, "until a; ^"+s, "for x in; ^"+s)
		}
		if s != "done" {
			bad(t, "while a; do b; ^"+s, "for x in; do a; ^"+s)
		}
		if s != "fi" {
			bad(t, "if a; then b; else c; ^"+s, "if a; then b; elif c; then d; else e; ^"+s)
		}
		if s != "}" {
			bad(t, "{ a; ^"+s, "f() { a; ^"+s)
		}
		bad(t, "(a; ^"+s+")", "case a in b) c; ^"+s, "if ^"+s, "if a; then ^"+s, "if a; then b; else ^"+s, "while a; do ^"+s, "for x in; do ^"+s, "case a in b) ^"+s, "f() { ^"+s, "f() (^"+s)
	}
	good(t, cmd("echo }"), "echo }")
	good(t, cmd("a }"), "a }")
	good(t, op("group", cmd("a }")), "{ a }; }")
}

func TestAssigns(t *testing.T) {
	give := func(l ...api.Part) made { return bare.gives("x", l...) }
	good(t, give(quoted("")), "x=", "x=''", "x=\"\"", "x= ", "x=;", "x=\n", "\nx=", "x=''\"\"")
	good(t, give(lit("1")), "x=1", " x=1 ", "x=1;")
	good(t, give(lit("=")), "x==")
	good(t, give(lit("y=z")), "x=y=z")
	good(t, give(lit("#")), "x=#")
	good(t, give(lit("if")), "x=if")
	good(t, give(lit("}")), "x=}")
	good(t, give(quoted("a b")), "x='a b'", "x=\"a b\"", "x='a'\" b\"")
	good(t, give(lit("a"), quoted("b"), lit("c")), "x=a'b'c", "x=a\"b\"c", "x=a\\bc")
	good(t, give(quoted("a"), lit("b")), "x='a'b")
	good(t, give(param("y", "")), "x=$y", "x=${y}")
	good(t, give(in(param("y", ""))), "x=\"$y\"")
	good(t, give(in(param("y", "")), lit("z"), arith("1+1"), quoted("$")), "x=\"$y\"z$((1+1))$")
	good(t, give(param("y", ":-", lit("a b"), quoted("c"))), "x=${y:-a b'c'}")
	good(t, give(arith("1")), "x=$((1))")
	good(t, bare.gives("abcdefghijkl", lit("1")), "abcdefghijkl=1")
	good(t, bare.gives("_Z9", lit("1")), "_Z9=1")
	good(t, bare.gives("if", lit("1")), "if=1")
	good(t, bare.gives("done", quoted("")), "done=")
	good(t, give(lit("1")).gives("y", lit("2")), "x=1 y=2", "x=1\ty=2")
	good(t, give(lit("1")).gives("x", lit("2")).gives("x", quoted("")), "x=1 x=2 x=")
	good(t, a.gives("x", lit("1")), "x=1 a")
	good(t, cmd("a y=2").gives("x", lit("1")), "x=1 a y=2")
	good(t, cmd("a x=1"), "a x=1")
	good(t, cmd("a x="), "a x=")
	good(t, cmd("'a' x=1"), "'a' x=1")
	good(t, cmd("'' x=1"), "'' x=1")
	good(t, cmd("$y x=1"), "$y x=1")
	good(t, cmd("a b x=1"), "a b x=1")
	// Redirs may stand among them.
	good(t, a.gives("x", lit("1")).goes(">", "b"), ">b x=1 a", "x=1 >b a", "x=1 a >b")
	good(t, a.gives("x", lit("1")).gives("y", lit("2")).goes(">", "b").goes("<", "c"), "x=1 >b y=2 <c a", ">b x=1 y=2 a <c", ">b <c x=1 y=2 a")
	good(t, cmd("a x=1").goes(">", "b"), "a >b x=1", ">b a x=1", "a x=1 >b")
	// What is none: no name, a name or its sign in quotes, something ahead of it.
	for _, s := range []string{"=", "=x", "==", "1=x", "1x=y", "abcdefghijklm=1", "'x'=1", "\"x\"=1", "\\x=1", "x''=1", "x'='1", "x\\=1", "x\"=1\"", "'x=1'", "\"x=1\"", "$x=1", "${x}=1", "$((x=1))", "$((x=1))y", "$((x==1))=2", "\"$((x=1))\"", "${x:-y=1}", "${x:=1}", "\"$x\"=1", "''x=1", "x$y=1", "x-y=1", "x+=1", "\u00e9=1", "x\u00e9=1", "$((1))=1", "x.y=", "-x=1", "x[1]=2", "{=1", "!=1", "}=1", "a#=1"} {
		good(t, cmd(s), s, s+";", "\n"+s)
		good(t, cmd(s+" y=1"), s+" y=1")
		good(t, cmd(s+" y=1").gives("x", lit("1")), "x=1 "+s+" y=1")
		good(t, cmd(s+" y=1").goes(">", "b"), ">b "+s+" y=1")
	}
	bad(t, "x=1 ^(", "x=1^()", "x=^(1)", "x=1 y=2 ^( a )", "x=1 { a; ^}", "x=1 if a; ^then b; fi", "x=1 !^(a)")
	good(t, op("pipe", give(lit("1")), a), "x=1 | a")
	good(t, op("not", give(lit("1"))), "! x=1")
	good(t, op("seq", give(lit("1")), a), "x=1; a")
	good(t, op("group", give(lit("1"))), "{ x=1; }", "{ x=1\n}")
}

func TestWords(t *testing.T) {
	for _, s := range []string{"a", "a b", "a b c d e f", "'a b' c", "\"$x\" $y ${z:-a b} ${#a} $((1+(2))) $@ $# $? $1", "a'b'\"c\"$d", "\\; \\a", "'' \"\" ''", "\u00e9 \U0001f600", "a#b '#'", "* ? [a-z]", "-n --", "a}b {c", "$", "\"$\""} {
		check(t, s, cmd(s))
		check(t, "{ "+s+"; }", op("group", cmd(s)))
	}
	// Words go into a script as the lexer makes them.
	w := words("a\"$b\"${c:-x'y'}")
	p, _, _ := parse.Parse("for x in a\"$b\"${c:-x'y'}; do case a\"$b\"${c:-x'y'} in a\"$b\"${c:-x'y'}) a\"$b\"${c:-x'y'} >a\"$b\"${c:-x'y'};; esac; done")
	if len(p.Nodes) != 3 || !alike(p.Nodes[0].Words, w) || !alike(p.Nodes[1].Words, w) || !alike(p.Nodes[1].Pats, [][]api.Word{w}) || !alike(p.Nodes[2].Words, w) || !alike(p.Nodes[2].Redirs, []api.Redir{{Op: ">", To: w[0]}}) {
		t.Error(short(p))
	}
}

func TestNodesAreNumbered(t *testing.T) {
	s := "! a | b && f() { c; }; case x in p) if a; then b; elif c; then d; fi;; q) while a; do b; done;; esac || for i in; do (a; b) done"
	p, at, e := parse.Parse(s)
	if e != api.OK || at != len(s) || p.Root != 0 || !tree.Is(p) {
		t.Fatal(short(p), at, e)
	}
	var got []string
	for _, n := range p.Nodes {
		got = append(got, n.Op)
	}
	want := "seq and not pipe cmd cmd fun group cmd or case if cmd cmd if cmd cmd while cmd cmd for sub seq cmd cmd"
	if strings.Join(got, " ") != want {
		t.Error(got)
	}
	// Walked from the Root, a node ahead of its kids, they come in order.
	next := 0
	var walk func(at int)
	walk = func(at int) {
		if at != next {
			t.Errorf("%d comes as %d", at, next)
		}
		next++
		for _, kid := range p.Nodes[at].Kids {
			walk(kid)
		}
	}
	walk(0)
	if next != len(p.Nodes) {
		t.Error("nodes that are no one's kid")
	}
	if k := p.Nodes[0].Kids; len(k) != 2 || k[0] != 1 || k[1] != 9 {
		t.Error("kids of the first one", k)
	}
}

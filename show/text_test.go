package show_test

import (
	"strings"
	"testing"

	"lazarus/api"
	"lazarus/parse"
	"lazarus/show"
	"lazarus/tree"
)

func TestExampleOfTheChapter(t *testing.T) {
	p, _, _ := parse.Parse("a;b")
	if s := show.Text(p); s != "a; b" {
		t.Errorf("%q", s)
	}
	check(t, op("seq", a, b), "a; b")
}

func TestCommands(t *testing.T) {
	check(t, a, "a")
	check(t, cmd("a b c"), "a b c")
	check(t, cmd(`a 'b c' "$d" '' ${e:-f g} $((1))`), `a "b c" "${d}" "" ${e:-f g} $((1))`)
	check(t, bare.gives("x", "1"), "x=1")
	check(t, bare.gives("x", "''"), `x=""`)
	check(t, bare.gives("x", "''a"), `x=""a`)
	check(t, bare.gives("x", "1").gives("y", "''").gives("x", "$z'a b'"), `x=1 y="" x=${z}"a b"`)
	check(t, bare.gives("x", "a=b"), "x=a=b")
	check(t, bare.gives("x", "=").gives("if", "if"), "x== if=if")
	check(t, bare.goes(">", "f"), "> f")
	check(t, bare.goes("<", "f"), "< f")
	check(t, bare.goes(">>", "f"), ">> f")
	check(t, bare.goes(">", "f").goes("<", "$g").goes(">>", "'h i'"), `> f < ${g} >> "h i"`)
	check(t, bare.goes(">", "if").goes(">", "x=1").goes(">", "''"), `> if > x=1 > ""`)
	check(t, a.goes(">", "f"), "a > f")
	check(t, cmd("a b").goes("<", "f").goes(">>", "g"), "a b < f >> g")
	check(t, a.gives("x", "1"), "x=1 a")
	check(t, cmd("a b").gives("x", "1").gives("y", "2"), "x=1 y=2 a b")
	check(t, bare.gives("x", "1").goes(">", "f"), "x=1 > f")
	check(t, bare.gives("x", "''").gives("y", "2").goes(">", "f").goes("<", "g"), `x="" y=2 > f < g`)
	check(t, cmd("a b").gives("x", "1").gives("y", "''").goes(">", "f").goes("<", "g"), `x=1 y="" a b > f < g`)
	// A remark's beginning is none within a word, nor behind an =.
	hash := bare
	hash.Assigns = []api.Assign{{Name: "x", To: word(lit("#a"))}}
	check(t, hash, "x=#a")
	check(t, cmd("a#b '#'c"), `a#b "#"c`)
	// What is Reserved, or an assign, in one place is none in another.
	check(t, cmd("a if } x=1 ! done"), "a if } x=1 ! done")
	check(t, cmd("'if' a"), `"if" a`)
	check(t, cmd("x'='1 a"), `x"="1 a`)
	check(t, cmd("1=2"), "1=2")
	check(t, cmd("if a").gives("x", "1"), "x=1 if a")
	check(t, cmd("'x'=1 y=2").gives("x", "1"), `x=1 "x"=1 y=2`)
}

func TestLists(t *testing.T) {
	check(t, op("seq", a, b), "a; b")
	check(t, op("seq", a, b, c, d), "a; b; c; d")
	check(t, op("and", a, b), "a && b")
	check(t, op("or", a, b), "a || b")
	check(t, op("or", op("and", a, b), c), "a && b || c")
	check(t, op("and", op("or", a, b), c), "a || b && c")
	check(t, op("and", op("and", op("and", a, b), c), d), "a && b && c && d")
	check(t, op("not", a), "! a")
	check(t, op("not", op("pipe", a, b)), "! a | b")
	check(t, op("and", op("not", a), op("not", b)), "! a && ! b")
	check(t, op("pipe", a, b), "a | b")
	check(t, op("pipe", a, b, c, d), "a | b | c | d")
	check(t, op("seq", op("or", op("pipe", a, b), op("not", op("pipe", b, c, d))), op("not", d)), "a | b || ! b | c | d; ! d")
	check(t, op("seq", a.goes(">", "f"), bare.gives("x", "1"), bare.goes("<", "g")), "a > f; x=1; < g")
}

func TestIfs(t *testing.T) {
	check(t, op("if", a, b), "if a; then b; fi")
	check(t, op("if", a, b, c), "if a; then b; else c; fi")
	check(t, op("if", op("seq", a, b), op("seq", b, c), op("seq", c, d)), "if a; b; then b; c; else c; d; fi")
	check(t, op("if", a, b, op("if", c, d)), "if a; then b; else if c; then d; fi; fi")
	check(t, op("if", a, b, op("if", c, d, op("if", a, b, c))), "if a; then b; else if c; then d; else if a; then b; else c; fi; fi; fi")
	check(t, op("if", op("if", a, b), op("if", c, d)), "if if a; then b; fi; then if c; then d; fi; fi")
	check(t, op("if", a, b, op("if", c, d).goes(">", "f")).goes(">", "g"), "if a; then b; else if c; then d; fi > f; fi > g")
	check(t, op("if", op("not", op("pipe", a, b)), op("and", a, b), op("or", c, d)), "if ! a | b; then a && b; else c || d; fi")
	check(t, op("if", cmd("a then"), cmd("b fi"), cmd("c else")), "if a then; then b fi; else c else; fi")
}

func TestLoops(t *testing.T) {
	check(t, op("while", a, b), "while a; do b; done")
	check(t, op("until", a, b), "until a; do b; done")
	check(t, op("while", op("seq", a, b), op("seq", c, d)), "while a; b; do c; d; done")
	check(t, op("until", op("not", a), op("while", b, c)), "until ! a; do while b; do c; done; done")
	check(t, op("while", op("until", a, b), c), "while until a; do b; done; do c; done")
	check(t, each("x", "", a), "for x in ; do a; done")
	check(t, each("x", "b", a), "for x in b; do a; done")
	check(t, each("x", "''", a), `for x in ""; do a; done`)
	check(t, each("x", `a 'b c' "$@" $x *.c`, op("seq", c, d)), `for x in a "b c" "${@}" ${x} *.c; do c; d; done`)
	check(t, each("x", "do", a), "for x in do; do a; done")
	check(t, each("x", "in do done y=1 if }", a), "for x in in do done y=1 if }; do a; done")
	for _, s := range []string{"if", "in", "do", "done", "for", "esac", "abcdefghijkl", "_"} {
		check(t, each(s, "a", b), "for "+s+" in a; do b; done")
		check(t, each(s, "", b), "for "+s+" in ; do b; done")
	}
	check(t, each("x", "a", each("y", "", each("z", "b c", d))), "for x in a; do for y in ; do for z in b c; do d; done; done; done")
}

func TestCases(t *testing.T) {
	check(t, choice("a"), "case a in esac")
	check(t, choice(`"$x"`), `case "${x}" in esac`)
	check(t, choice("in"), "case in in esac")
	check(t, choice("esac"), "case esac in esac")
	check(t, choice("x=1"), "case x=1 in esac")
	check(t, choice("a").has("b", c), "case a in (b) c;; esac")
	check(t, choice("a").has("b", c).has("*", d), "case a in (b) c;; (*) d;; esac")
	check(t, choice("a").has("b c", c), "case a in (b | c) c;; esac")
	check(t, choice("a").has("b c 'd' ?", op("seq", c, d)).has("''", a).has("[a-z]* $x", b), `case a in (b | c | "d" | ?) c; d;; ("") a;; ([a-z]* | ${x}) b;; esac`)
	check(t, choice("a").has("esac", c), "case a in (esac) c;; esac")
	check(t, choice("a").has("esac in", c).has("if }", d).has("esac", a), "case a in (esac | in) c;; (if | }) d;; (esac) a;; esac")
	check(t, choice("a").has("'*' '|' ')' '('", c), `case a in ("*" | "|" | ")" | "(") c;; esac`)
	check(t, choice("a").has("x=1 '#'", c), `case a in (x=1 | "#") c;; esac`)
	check(t, choice("a").has("b", choice("b").has("c", c)).has("d", choice("d")), "case a in (b) case b in (c) c;; esac;; (d) case d in esac;; esac")
	check(t, choice("a").has("b", op("sub", op("sub", c))), "case a in (b) ( ( c ) );; esac")
	for _, s := range strings.Fields("if then elif else fi while until do done for in case esac { } !") {
		check(t, choice(s).has(s, cmd("a "+s)), "case "+s+" in ("+s+") a "+s+";; esac")
		check(t, choice("'"+s+"'").has("'"+s+"' "+s, c), `case "`+s+`" in ("`+s+`" | `+s+`) c;; esac`)
	}
}

func TestFuns(t *testing.T) {
	check(t, fun("f", op("group", a)), "f() { a; }")
	check(t, fun("f", op("sub", a)), "f() ( a )")
	check(t, fun("abcdefghijkl", op("group", op("seq", a, b))), "abcdefghijkl() { a; b; }")
	check(t, fun("f", op("group", fun("g", op("sub", fun("h", op("group", a)))))), "f() { g() ( h() { a; } ); }")
	check(t, op("seq", fun("f", op("group", a)), cmd("f b")), "f() { a; }; f b")
	check(t, op("pipe", fun("f", op("sub", a)), fun("g", op("group", a))), "f() ( a ) | g() { a; }")
	check(t, op("not", fun("f", op("sub", a))), "! f() ( a )")
	// Redirs are those of what is within; a fun has none, and neither has its body.
	check(t, fun("f", op("group", a.goes(">", "g"))), "f() { a > g; }")
	check(t, fun("f", op("sub", op("group", a).goes(">", "g"))), "f() ( { a; } > g )")
	for _, m := range []made{fun("f", op("group", a)).goes(">", "g"), fun("f", op("group", a).goes(">", "g")), fun("f", op("sub", a).goes("<", "g"))} {
		if p := m.prog(); tree.Is(p) || show.Text(p) != "" {
			t.Errorf("Text = %q", show.Text(p))
		}
	}
	if _, at, e := parse.Parse("f() { a; } > g"); at != 11 || e != api.ErrForm {
		t.Error("redirs behind a fun", at, e)
	}
}

func TestGroupsAndSubs(t *testing.T) {
	check(t, op("group", a), "{ a; }")
	check(t, op("sub", a), "( a )")
	check(t, op("group", op("seq", a, b)), "{ a; b; }")
	check(t, op("sub", op("seq", a, b)), "( a; b )")
	check(t, op("sub", op("sub", a)), "( ( a ) )")
	check(t, op("group", op("group", a)), "{ { a; }; }")
	check(t, op("pipe", op("group", a), op("sub", b)), "{ a; } | ( b )")
	check(t, op("and", op("group", op("or", a, b)), op("group", op("and", c, d))), "{ a || b; } && { c && d; }")
	check(t, op("group", op("not", op("group", op("not", a)))), "{ ! { ! a; }; }")
	check(t, op("group", cmd("a }")), "{ a }; }")
	check(t, op("sub", a.goes(">", "f")).goes(">", "g"), "( a > f ) > g")
	check(t, op("sub", cmd("a ')'")), `( a ")" )`)
}

// compounds are all kinds that may have redirs behind, each with its text.
var compounds = map[string]made{
	"if a; then b; fi":         op("if", a, b),
	"if a; then b; else c; fi": op("if", a, b, c),
	"while a; do b; done":      op("while", a, b),
	"until a; do b; done":      op("until", a, b),
	"for x in a b; do c; done": each("x", "a b", c),
	"for x in ; do c; done":    each("x", "", c),
	"case a in esac":           choice("a"),
	"case a in (b) c;; esac":   choice("a").has("b", c),
	"{ a; }":                   op("group", a),
	"( a )":                    op("sub", a),
}

func TestRedirsBehind(t *testing.T) {
	for s, m := range compounds {
		check(t, m, s)
		check(t, m.goes("<", "f"), s+" < f")
		check(t, m.goes(">", "f"), s+" > f")
		check(t, m.goes(">>", "f"), s+" >> f")
		check(t, m.goes(">>", "$f").goes("<", "'g h'").goes(">", "if"), s+` >> ${f} < "g h" > if`)
		check(t, op("seq", m.goes(">", "f"), m.goes(">", "g").goes("<", "h")), s+" > f; "+s+" > g < h")
		check(t, op("pipe", m.goes("<", "f"), m, m.goes(">", "f")), s+" < f | "+s+" | "+s+" > f")
		check(t, op("group", m.goes(">", "f")).goes(">", "g"), "{ "+s+" > f; } > g")
	}
}

// kinds are the Ops, with how many kids a node of each may have.
var kinds = []struct {
	op   string
	kids []int
}{
	{"cmd", []int{0}}, {"seq", []int{2, 3}}, {"and", []int{2}}, {"or", []int{2}}, {"not", []int{1}}, {"pipe", []int{2, 3}}, {"if", []int{2, 3}}, {"while", []int{2}}, {"until", []int{2}},
	{"for", []int{1}}, {"case", []int{0, 1, 2}}, {"fun", []int{1}}, {"group", []int{1}}, {"sub", []int{1}},
}

// around is a node of a kind around these.
func around(kind string, kids ...made) made {
	m := op(kind, kids...)
	switch kind {
	case "cmd":
		return cmd("a b")
	case "for":
		m.Name, m.Words = "x", words("b c")
	case "fun":
		m.Name = "f"
	case "case":
		m.Words = words("b")
		for range kids {
			m.Pats = append(m.Pats, words("c d"))
		}
	}
	return m
}

// kidsOf is n kids that a kind may have.
func kidsOf(kind string, n int) []made {
	l := []made{a, b, c}[:n:n]
	if kind == "fun" {
		l[0] = op("group", a)
	}
	return append([]made(nil), l...)
}

func TestPairsOfKinds(t *testing.T) {
	seen := map[string]int{}
	for _, top := range kinds {
		for _, n := range top.kids {
			for _, low := range kinds {
				for _, m := range low.kids {
					inner := around(low.op, kidsOf(low.op, m)...)
					for place := range n {
						kids := kidsOf(top.op, n)
						kids[place] = inner
						if x := around(top.op, kids...); tree.Is(x.prog()) {
							seen[top.op]++
							checkByModel(t, x)
							checkByModel(t, op("group", x))
							checkByModel(t, op("seq", op("sub", x), op("sub", inner)))
						}
					}
				}
			}
		}
	}
	// Of all kids there are 19: an and or an or has as second one no seq (2), and, or; what a fun, a not and a pipe may have is less.
	for kind, want := range map[string]int{"cmd": 0, "seq": 5 * 17, "and": 17 + 15, "or": 17 + 15, "not": 14, "pipe": 5 * 12, "if": 5 * 19, "while": 2 * 19, "until": 2 * 19, "for": 19, "case": 3 * 19, "fun": 2, "group": 19, "sub": 19} {
		if seen[kind] != want {
			t.Errorf("%s: %d pairs, not %d", kind, seen[kind], want)
		}
	}
}

func TestDeepScripts(t *testing.T) {
	for _, x := range []struct {
		ahead, behind string
		commands      int
		in            func(made) made
	}{
		{"{ ", "; }", 1, func(m made) made { return op("group", m) }},
		{"( ", " )", 1, func(m made) made { return op("sub", m) }},
		{"if ", "; then b; fi", 1, func(m made) made { return op("if", m, b) }},
		{"if b; then ", "; fi", 1, func(m made) made { return op("if", b, m) }},
		{"if b; then c; else ", "; fi", 1, func(m made) made { return op("if", b, c, m) }},
		{"while ", "; do b; done", 1, func(m made) made { return op("while", m, b) }},
		{"until b; do ", "; done", 1, func(m made) made { return op("until", b, m) }},
		{"for x in b; do ", "; done", 1, func(m made) made { return each("x", "b", m) }},
		{"case b in (c) d;; (d) ", ";; esac", 1, func(m made) made { return choice("b").has("c", d).has("d", m) }},
		{"f() { ", "; }", 2, func(m made) made { return fun("f", op("group", m)) }},
		{"! { b || ", "; }", 1, func(m made) made { return op("not", op("group", op("or", b, m))) }},
	} {
		m, ahead, behind := a, "", ""
		for n := 0; n <= 24; n += x.commands {
			check(t, m, ahead+"a"+behind)
			if deep := modelDepth(m); deep != n {
				t.Errorf("%s is %d deep, not %d", ahead, deep, n)
			}
			m, ahead, behind = x.in(m), ahead+x.ahead, x.behind+behind
		}
	}
	// Up to as many nodes as there may be.
	m := a
	for range api.MaxNodes - 1 {
		m = op("group", m)
	}
	check(t, m, strings.Repeat("{ ", api.MaxNodes-1)+"a"+strings.Repeat("; }", api.MaxNodes-1))
	if s := show.Text(op("group", m).prog()); s != "" {
		t.Errorf("too many nodes: %.60q", s)
	}
}

func TestManyNodes(t *testing.T) {
	var l []made
	for range api.MaxNodes - 1 {
		l = append(l, a)
	}
	check(t, op("seq", l...), strings.Repeat("a; ", api.MaxNodes-2)+"a")
	check(t, op("pipe", l...), strings.Repeat("a | ", api.MaxNodes-2)+"a")
	m := choice("b")
	for range api.MaxNodes - 1 {
		m = m.has("c", a)
	}
	check(t, m, "case b in "+strings.Repeat("(c) a;; ", api.MaxNodes-1)+"esac")
	m = a
	for range api.MaxNodes/2 - 1 {
		m = op("and", m, a)
	}
	check(t, m, strings.Repeat("a && ", api.MaxNodes/2-1)+"a")
	if s := show.Text(op("seq", append(l, a)...).prog()); s != "" {
		t.Errorf("too many nodes: %.60q", s)
	}
}

func TestTooMuchToParse(t *testing.T) {
	for n := api.MaxText - 8; n < api.MaxText+8; n++ {
		s := strings.Repeat("b", n)
		for _, m := range []made{cmd("a"), a.gives("x", "1"), op("group", a), op("seq", a, b)} {
			if m.Op == "cmd" {
				m.Words = []api.Word{word(lit(s))}
			} else {
				m.kids = append([]made{{Node: api.Node{Op: "cmd", Words: []api.Word{word(lit(s))}}}}, m.kids[1:]...)
			}
			if e := checkByModel(t, m); (e == api.ErrLimit) != (len(modelText(m)) > api.MaxText) {
				t.Error(n, e)
			}
		}
	}
	// What is shown may be longer, or deeper, than what was parsed.
	for n, want := range map[int]api.Errno{api.MaxDepth - 1: api.OK, api.MaxDepth: api.ErrLimit} {
		p, _, e := parse.Parse("a >" + strings.Repeat("${a:-", n) + "$x" + strings.Repeat("}", n))
		if e != api.OK {
			t.Fatal(n, e)
		}
		if e := checkByModel(t, unmade(p, 0)); e != want {
			t.Error(n, e)
		}
	}
	p, _, e := parse.Parse("a " + strings.Repeat("\\$", 999))
	if e != api.OK {
		t.Fatal(e)
	}
	checkByModel(t, unmade(p, 0))
	p, _, e = parse.Parse(strings.Repeat("$a ", 600))
	if e != api.OK {
		t.Fatal(e)
	}
	if checkByModel(t, unmade(p, 0)) != api.ErrLimit {
		t.Error("600 parameters are not too long")
	}
	w := make([]api.Word, 1<<16)
	for i := range w {
		w[i] = word(lit("a"), quoted("$"))
	}
	checkByModel(t, made{Node: api.Node{Op: "for", Name: "x", Words: w}, kids: []made{a}})
}

package show_test

import (
	"math/rand/v2"
	"strings"
	"testing"

	"lazarus/api"
	"lazarus/parse"
	"lazarus/show"
	"lazarus/tree"
)

// parsed are texts, each with what the script is shown as.
var parsed = []struct{ from, to string }{
	{"a", "a"}, {"a;", "a"}, {"\n\na\n\n", "a"}, {"a # b", "a"}, {"a\nb\n", "a; b"}, {"a;b;", "a; b"},
	{"a&&b||\nc", "a && b || c"}, {"!a", "!a"}, {"! a|b", "! a | b"}, {"a|\n\nb", "a | b"},
	{"'a'", `"a"`}, {`\a\b`, `"ab"`}, {`a\ b`, `a" "b`}, {`"a"'b'\c`, `"abc"`}, {`""`, `""`}, {`''""`, `""`}, {`''a`, `""a`}, {"$", `"\$"`}, {`"a\b\$\""`, `"a\\b\$\""`}, {"'\n'", "\"\n\""}, {"\\\n", "\"\n\""},
	{"$a", "${a}"}, {"$ab-c", "${ab}-c"}, {"$12", "${1}2"}, {"$@$#$?", "${@}${#}${?}"}, {"${a}b", "${a}b"}, {"${#a}", "${#a}"}, {"${#}", "${#}"}, {"${#:-a}", "${#:-a}"},
	{"${a:-b 'c' \"$d\"}", `${a:-b "c" "${d}"}`}, {`"${a:=$b}"`, `"${a:=${b}}"`}, {"${a:+}", "${a:+}"}, {"${a:-;|&}", "${a:-;|&}"}, {"${a:-\\}}", `${a:-"}"}`},
	{"$((1+2))", "$((1+2))"}, {`"$(( (1) ))"`, `"$(( (1) ))"`}, {"$(())", "$(())"}, {"a$((1))b$c", "a$((1))b${c}"},
	{"x=1 y= a b", `x=1 y="" a b`}, {">f a <g b", "a b > f < g"}, {"x=1 >f y=2 a", "x=1 y=2 a > f"}, {"a>b>>c<d", "a > b >> c < d"}, {"x=$y'z'", `x=${y}"z"`}, {"x=''", `x=""`}, {"x=#", "x=#"}, {"a >'x y'", `a > "x y"`},
	{"if a\nthen b\nfi", "if a; then b; fi"}, {"if a;then b;else c;fi", "if a; then b; else c; fi"}, {"if a;b;then c;d;elif e;then f;else g;fi>h", "if a; b; then c; d; else if e; then f; else g; fi; fi > h"},
	{"if a;then b;elif c;then d;elif e;then f;fi", "if a; then b; else if c; then d; else if e; then f; fi; fi; fi"},
	{"while a\ndo b\ndone", "while a; do b; done"}, {"until a;do b;c;done <d", "until a; do b; c; done < d"},
	{"for x in;do a;done", "for x in ; do a; done"}, {"for x in\ndo a\ndone", "for x in ; do a; done"}, {"for x in a $b 'c'\ndo d;done", `for x in a ${b} "c"; do d; done`},
	{"case a in\nesac", "case a in esac"}, {"case a in b) c;; esac", "case a in (b) c;; esac"}, {"case a in\nb|c)\nd\n;;\n\n(e) f;;\nesac >g", "case a in (b | c) d;; (e) f;; esac > g"}, {"case $a in (esac) b; c;; 'd'*) e;; esac", `case ${a} in (esac) b; c;; ("d"*) e;; esac`},
	{"f(){ a;}", "f() { a; }"}, {"f ( )\n\n(a;b)", "f() ( a; b )"}, {"f() { g() (a); g; }; f", "f() { g() ( a ); g; }; f"},
	{"{ a\n}", "{ a; }"}, {"(a)>b", "( a ) > b"}, {"((a);b)", "( ( a ); b )"}, {"{ { a; } >b; } >c", "{ { a; } > b; } > c"}, {"{ a|b&&! c; }|(d)", "{ a | b && ! c; } | ( d )"},
	{"for i in \"$@\" ; do echo ${#i} ${i:-'none'} >>f # remark\ndone && x=$((i+1)) | cat < $x", "for i in \"${@}\"; do echo ${#i} ${i:-\"none\"} >> f; done && x=$((i+1)) | cat < ${x}"},
}

func TestParsedScripts(t *testing.T) {
	for _, x := range parsed {
		p, _, e := parse.Parse(x.from)
		if e != api.OK {
			t.Fatalf("%q: %v", x.from, e)
		}
		check(t, unmade(p, 0), x.to)
		// What is shown is shown as it is.
		q, _, e := parse.Parse(x.to)
		if s := show.Text(q); e != api.OK || s != x.to {
			t.Errorf("%q is shown as %q, %v", x.to, s, e)
		}
		// The same within others, and behind others.
		for _, s := range []string{"{ NL; }", "(NL)>f", "if NL\nthen NL\nelse NL\nfi", "while NL\ndo NL\ndone", "for x in a\ndo NL\ndone", "case a in b) NL\n;; c) NL\n;; esac", "f() { NL\n}", "NL\nNL", "a && b\nNL"} {
			if p, _, e := parse.Parse(strings.ReplaceAll(s, "NL", strings.TrimSuffix(x.from, ";"))); e == api.OK {
				checkByModel(t, unmade(p, 0))
			}
		}
	}
}

// maker makes up scripts; left is how many more nodes it may make.
type maker struct {
	r    *rand.Rand
	left int
}

// pick is one of these.
func pick[T any](m *maker, l ...T) T { return l[m.r.IntN(len(l))] }

// letters is some of these.
func (m *maker) letters(least int, of string) string {
	l := []rune(of)
	var b strings.Builder
	for range least + m.r.IntN(4) {
		b.WriteRune(pick(m, l...))
	}
	return b.String()
}

// parts are some parts, within so many others.
func (m *maker) parts(least, depth int) []api.Part {
	var l []api.Part
	for range least + m.r.IntN(3) {
		p := m.part(depth)
		// Two Lits side by side that are both Quoted or both not would be one.
		if n := len(l); n > 0 && p.Kind == api.Lit && l[n-1].Kind == api.Lit && p.Quoted == l[n-1].Quoted {
			l = append(l, param("v", ""))
		}
		l = append(l, p)
	}
	return l
}

func (m *maker) part(depth int) api.Part {
	bare := "ab=#{!*?[]-,./:@+%~^_019\r\x01\x7f\u00e9\u00a0\u4e16\U0001f600\ufffd"
	if depth == 0 {
		bare += "}"
	} else {
		bare += " \t\n;&|()<>"
	}
	switch m.r.IntN(8) {
	case 0, 1, 2:
		return lit(m.letters(1, bare))
	case 3, 4:
		return quoted(m.letters(0, "ab \t\n;&|()<>'}{#=\"\"$$\\\\\\\u00e9\ufffd"))
	case 5:
		p := arith(pick(m, "", "1", "(a)", "a=(b+1)*2", "((1)<(2))"))
		p.Quoted = m.r.IntN(2) == 0
		return p
	}
	return m.variable(depth)
}

func (m *maker) variable(depth int) api.Part {
	p := param(pick(m, "a", "x", "_9", "abcdefghijkl", "if", "1", "9", "@", "#", "?"), pick(m, "", "", "#", ":-", ":=", ":+"))
	p.Quoted = m.r.IntN(2) == 0
	if strings.Contains("19@#?", p.Text) && (p.Op == "#" || p.Op == ":=") {
		p.Op = ""
	}
	if len(p.Op) == 2 {
		if depth >= 3 {
			return p
		}
		p.Word = m.parts(0, depth+1)
	}
	return p
}

// word is a word that may stand anywhere but first.
func (m *maker) word() api.Word {
	if m.r.IntN(6) == 0 {
		return words(pick(m, "if", "}", "done", "esac", "in", "x=1", "a", "!"))[0]
	}
	w := word(m.parts(1, 0)...)
	if p := w.Parts[0]; p.Kind == api.Lit && !p.Quoted && strings.HasPrefix(p.Text, "#") {
		w.Parts = append([]api.Part{param("h", "")}, w.Parts...)
	}
	return w
}

func (m *maker) words(least int) []api.Word {
	var l []api.Word
	for range least + m.r.IntN(3) {
		l = append(l, m.word())
	}
	return l
}

func (m *maker) name() string { return pick(m, "x", "y", "abcdefghijkl", "_9", "f", "iff") }

// redirs is a node with some redirs.
func (m *maker) redirs(x made) made {
	for range max(0, m.r.IntN(5)-2) {
		x.Redirs = append(x.Redirs, api.Redir{Op: pick(m, "<", ">", ">>"), To: m.word()})
	}
	return x
}

// several is a node of some kids, of which each is made.
func (m *maker) several(kind string, n int, kid func() made) made {
	x := op(kind)
	for range n {
		m.left--
		x.kids = append(x.kids, kid())
	}
	return x
}

func (m *maker) list() made {
	if m.left > 0 && m.r.IntN(3) == 0 {
		return m.several("seq", 2+m.r.IntN(3), m.andor)
	}
	return m.andor()
}

func (m *maker) andor() made {
	if m.left > 0 && m.r.IntN(4) == 0 {
		m.left--
		return op(pick(m, "and", "or"), m.andor(), m.not())
	}
	return m.not()
}

func (m *maker) not() made {
	if m.left > 0 && m.r.IntN(5) == 0 {
		return m.several("not", 1, m.pipe)
	}
	return m.pipe()
}

func (m *maker) pipe() made {
	if m.left > 0 && m.r.IntN(5) == 0 {
		return m.several("pipe", 2+m.r.IntN(2), m.command)
	}
	return m.command()
}

func (m *maker) command() made {
	if m.left <= 0 {
		return m.simple()
	}
	switch m.r.IntN(9) {
	case 0:
		return m.redirs(m.several("if", 2+m.r.IntN(2), m.list))
	case 1:
		return m.redirs(m.several(pick(m, "while", "until"), 2, m.list))
	case 2:
		x := m.several("for", 1, m.list)
		x.Name, x.Words = pick(m, m.name(), "if", "in"), m.words(0)
		return m.redirs(x)
	case 3:
		x := m.several("case", m.r.IntN(3), m.list)
		x.Words = []api.Word{m.word()}
		for range x.kids {
			x.Pats = append(x.Pats, m.words(1))
		}
		return m.redirs(x)
	case 4:
		return fun(m.name(), m.several(pick(m, "group", "sub"), 1, m.list))
	case 5:
		return m.redirs(m.several(pick(m, "group", "sub"), 1, m.list))
	}
	return m.simple()
}

// simple is a command, which the tree has as one.
func (m *maker) simple() made {
	for {
		x := m.redirs(made{Node: api.Node{Op: "cmd", Words: m.words(0)}})
		for range max(0, m.r.IntN(4)-1) {
			x.Assigns = append(x.Assigns, api.Assign{Name: m.name(), To: pick(m, m.word(), word(lit("#a")), word(quoted("")))})
		}
		if tree.Is(x.prog()) {
			return x
		}
	}
}

// madeUp is a script of some size.
func madeUp(r *rand.Rand) made {
	for {
		m := maker{r: r, left: r.IntN(r.IntN(90) + 1)}
		if x := m.list(); x.size() <= api.MaxNodes {
			return x
		}
	}
}

func TestMadeUpScripts(t *testing.T) {
	r := rand.New(rand.NewPCG(11, 1))
	seen := map[string]int{}
	ended := map[api.Errno]int{}
	for range 3000 {
		m := madeUp(r)
		p := m.prog()
		if !tree.Is(p) {
			t.Fatalf("no script: %s", short(p))
		}
		ended[checkByModel(t, m)]++
		for _, n := range p.Nodes {
			seen[n.Op]++
			for _, w := range n.Words {
				checkRead(t, show.Word(w), w.Parts)
			}
		}
	}
	if ended[api.OK] < 2000 || ended[api.ErrLimit] < 1 || len(seen) != 14 {
		t.Error(ended, seen)
	}
}

func TestMadeUpWords(t *testing.T) {
	m := maker{r: rand.New(rand.NewPCG(11, 2))}
	for range 20000 {
		l := m.parts(1, 0)
		checkWord(t, modelWord(l), l...)
	}
}

func TestAllShortScripts(t *testing.T) {
	// All rows of up to five tokens: what of them is a script is shown as one.
	good := 0
	tokens := []string{"a", "x=1", "'b'", "$c", ";", "&&", "|", "!", "{", "}", "(", ")", ">f", "f()"}
	var rows func(s string, left int)
	rows = func(s string, left int) {
		p, at, e := parse.Parse(s)
		if e == api.OK {
			good++
			checkByModel(t, unmade(p, 0))
		}
		// No script begins with what has its error ahead of the end.
		if left == 0 || e != api.OK && at < len(s) {
			return
		}
		for _, k := range tokens {
			rows(s+k+" ", left-1)
		}
	}
	rows("", 5)
	if good < 10000 {
		t.Error("scripts:", good)
	}
}

// FuzzText holds what any script is shown as against the model.
func FuzzText(f *testing.F) {
	for _, x := range parsed {
		f.Add(x.from, uint64(1))
		f.Add(x.to+"\n"+x.from, uint64(2))
	}
	f.Fuzz(func(t *testing.T, s string, seed uint64) {
		if p, _, e := parse.Parse(s); e == api.OK {
			checkByModel(t, unmade(p, 0))
		}
		for _, p := range []api.Part{lit(s), quoted(s), arith(s), param("a", ":-", lit(s)), in(param("1", ":+", quoted(s))), param(s, "")} {
			if tree.Word(word(p)) {
				checkWord(t, modelWord([]api.Part{p}), p)
			} else {
				show.Word(word(p))
			}
		}
		checkByModel(t, madeUp(rand.New(rand.NewPCG(seed, 11))))
	})
}

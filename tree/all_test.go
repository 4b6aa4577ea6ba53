package tree_test

import (
	"math/rand/v2"
	"testing"

	"lazarus/api"
	"lazarus/tree"
)

// pool are parts that are ones and such as are none, of each kind and each fault.
func pool() []api.Part {
	var l []api.Part
	for _, s := range []string{"", "a", "x=", "#", "}", "{", "=", "-x", "if", "\u00e9", "\ufffd", " ", "\t", "\n", ";", "&", "|", "(", ")", "<", ">", "'", "\"", "$", "\\", "a b", "$a", "\\}", "\x00", "\xff"} {
		l = append(l, lit(s), quoted(s))
	}
	for _, s := range []string{"a", "abcdefghijkl", "abcdefghijklm", "1", "0", "12", "@", "#", "?", "", "\u00e9", "a:-x", "}", "a}", "#a"} {
		for _, op := range []string{"", "#", ":-", ":=", ":+", ":", "-", ":?"} {
			l = append(l, param(s, op), param(s, op, lit("x")), in(param(s, op, quoted("x"))))
		}
	}
	for _, s := range []string{"", "1", "(1)", "1)", "(1", ")(", "())(", "1))+((2", "a \t", "\u00e9", "$a", "1;", "\n", "\xff"} {
		l = append(l, arith(s), in(arith(s)))
	}
	odd := lit("a")
	odd.Op = "#"
	with := arith("1")
	with.Word = []api.Part{lit("x")}
	return append(l, odd, with, api.Part{}, api.Part{Kind: 4, Text: "a"})
}

// checkByModel holds what Word tells of a word against what the lexer makes.
func checkByModel(t *testing.T, l ...api.Part) {
	t.Helper()
	if want := modelWord(word(l...)); tree.Word(word(l...)) != want {
		t.Errorf("Word(%s) = %v, of %q", short(l), !want, written(l))
	}
}

func TestWordsAreWhatTheLexerMakes(t *testing.T) {
	l := pool()
	checkByModel(t)
	for _, p := range l {
		checkByModel(t, p)
		checkByModel(t, param("y", ":-", p))
		for _, q := range l {
			if p.Kind != api.Lit && q.Kind != api.Lit {
				continue
			}
			checkByModel(t, p, q)
			checkByModel(t, lit("v"), in(param("1", ":+", in(param("y", ":=", p, q)))), quoted("w"))
		}
	}
}

func TestMadeUpWordsAreWhatTheLexerMakes(t *testing.T) {
	r := rand.New(rand.NewPCG(9, 1))
	l := pool()
	var few []api.Part
	for _, p := range l {
		if tree.Word(word(p)) {
			few = append(few, p)
		}
	}
	good := 0
	for range 30000 {
		w := madeUp(r, l, few, 4)
		checkByModel(t, w...)
		if modelWord(word(w...)) {
			good++
		}
	}
	if good < 5000 || good > 25000 {
		t.Error("words that are ones:", good)
	}
}

// madeUp is a row of parts, most of them ones.
func madeUp(r *rand.Rand, all, few []api.Part, depth int) []api.Part {
	var l []api.Part
	for range r.IntN(4) {
		p := few[r.IntN(len(few))]
		if r.IntN(30) == 0 {
			p = all[r.IntN(len(all))]
		}
		if p.Kind == api.Var && len(p.Op) == 2 && depth > 0 {
			p.Word = madeUp(r, all, few, depth-1)
		}
		if len(l) > 0 && l[len(l)-1].Kind == api.Lit && r.IntN(30) > 0 {
			p.Quoted = !l[len(l)-1].Quoted
		}
		l = append(l, p)
	}
	return l
}

// maker makes up scripts by the grammar.
type maker struct {
	r    *rand.Rand
	p    api.Prog
	left int
}

// pick is one of these.
func pick[T any](r *rand.Rand, l ...T) T { return l[r.IntN(len(l))] }

// word, words and names are such as may stand anywhere, but plain ones; more are such as are no first ones.
func (m *maker) word() api.Word {
	return pick(m.r, a, word(lit("b")), word(quoted("")), word(in(param("x", ""))), word(arith("1+1")), word(lit("a"), quoted(" ")), word(param("x", ":-", lit("a b"), quoted("c"))), word(quoted("#")), word(quoted("if")), word(quoted("x=")), word(lit("1=2")))
}

func (m *maker) more() api.Word {
	return pick(m.r, m.word(), word(lit("x=1")), word(lit("if")), word(lit("}")), word(lit("done"), quoted("")))
}

func (m *maker) words(least int) []api.Word {
	var l []api.Word
	for range least + m.r.IntN(3) {
		l = append(l, m.more())
	}
	return l
}

func (m *maker) name() string { return pick(m.r, "x", "y", "abcdefghijkl", "_9") }

func (m *maker) redirs(n api.Node) api.Node {
	for range max(0, m.r.IntN(5)-2) {
		n = going(n, pick(m.r, "<", ">", ">>"), m.more())
	}
	return n
}

// add puts a node behind, and what make makes as its kids.
func (m *maker) add(n api.Node, kids ...func()) {
	at := len(m.p.Nodes)
	m.p.Nodes = append(m.p.Nodes, n)
	for _, kid := range kids {
		m.left--
		m.p.Nodes[at].Kids = append(m.p.Nodes[at].Kids, len(m.p.Nodes))
		kid()
	}
}

// times is a thing n times.
func times(n int, kid func()) []func() {
	var l []func()
	for range n {
		l = append(l, kid)
	}
	return l
}

func (m *maker) list() {
	if m.left > 0 && m.r.IntN(3) == 0 {
		m.add(node("seq"), times(2+m.r.IntN(3), m.andor)...)
		return
	}
	m.andor()
}

func (m *maker) andor() {
	if m.left > 0 && m.r.IntN(4) == 0 {
		m.add(node(pick(m.r, "and", "or")), m.andor, m.not)
		return
	}
	m.not()
}

func (m *maker) not() {
	if m.left > 0 && m.r.IntN(5) == 0 {
		m.add(node("not"), m.pipe)
		return
	}
	m.pipe()
}

func (m *maker) pipe() {
	if m.left > 0 && m.r.IntN(5) == 0 {
		m.add(node("pipe"), times(2+m.r.IntN(2), m.command)...)
		return
	}
	m.command()
}

func (m *maker) command() {
	if m.left <= 0 {
		m.simple()
		return
	}
	switch m.r.IntN(9) {
	case 0:
		m.add(m.redirs(node("if")), times(2+m.r.IntN(2), m.list)...)
	case 1:
		m.add(m.redirs(node(pick(m.r, "while", "until"))), m.list, m.list)
	case 2:
		m.add(m.redirs(api.Node{Op: "for", Name: pick(m.r, m.name(), "if"), Words: m.words(0)}), m.list)
	case 3:
		n := choice(m.more(), nil)
		for range m.r.IntN(3) {
			n.Pats = append(n.Pats, m.words(1))
		}
		m.add(m.redirs(n), times(len(n.Pats), m.list)...)
	case 4:
		m.add(api.Node{Op: "fun", Name: m.name()}, func() { m.add(node(pick(m.r, "group", "sub")), m.list) })
	case 5:
		m.add(m.redirs(node(pick(m.r, "group", "sub"))), m.list)
	default:
		m.simple()
	}
}

func (m *maker) simple() {
	n := m.redirs(api.Node{Op: "cmd", Words: append([]api.Word{m.word()}, m.words(0)...)})
	if m.r.IntN(3) == 0 {
		n = giving(n, m.name(), pick(m.r, m.word(), word(lit("#")), word(lit("a=b"))))
		n.Words = n.Words[:m.r.IntN(len(n.Words)+1)]
	}
	m.add(n)
}

// madeUpProg is a script that is one.
func madeUpProg(r *rand.Rand) api.Prog {
	m := maker{r: r, left: r.IntN(12)}
	m.list()
	return m.p
}

// spoilt is a script with one place that is changed.
func spoilt(r *rand.Rand, p api.Prog) api.Prog {
	p = clone(p)
	l := places(&p)
	v := l[r.IntN(len(l))]
	switch x := v.Addr().Interface().(type) {
	case *int:
		*x = pick(r, *x+1, *x-1, 0, -1, len(p.Nodes), 1, 2, 3)
	case *bool:
		*x = !*x
	case *string:
		*x = pick(r, "", *x+"x", "cmd", "seq", "and", "not", "pipe", "if", "while", "for", "case", "fun", "group", "sub", "<", ">>", "x", "1", "done", "#a", "x=1", "a b", "abcdefghijklm", "\xff", ":-", "#", "}")
	case *[]api.Word:
		*x = pick(r, nil, words("a"), words("a b"), words("if"), words("x=1"), words("#"), []api.Word{{}})
	case *[]api.Assign:
		*x = pick(r, nil, []api.Assign{{Name: "x", To: a}}, []api.Assign{{Name: "1", To: a}}, []api.Assign{{Name: "x"}})
	case *[]api.Redir:
		*x = pick(r, nil, []api.Redir{{Op: "<", To: a}}, []api.Redir{{Op: "<<", To: a}}, []api.Redir{{Op: "<"}})
	case *[][]api.Word:
		*x = pick(r, nil, [][]api.Word{words("p")}, [][]api.Word{words("p"), words("q")}, [][]api.Word{nil})
	case *[]api.Part:
		*x = pick(r, nil, []api.Part{lit("a")}, []api.Part{lit("if")}, []api.Part{lit("x=1")}, []api.Part{lit("#")}, []api.Part{quoted("")}, []api.Part{lit("")})
	case *[]int:
		*x = pick(r, nil, []int{1}, []int{1, 2}, append((*x)[:len(*x):len(*x)], len(p.Nodes)))
	case *[]api.Node:
		*x = pick(r, append((*x)[:len(*x):len(*x)], c), (*x)[:max(0, len(*x)-1)])
	}
	return p
}

func TestMadeUpScripts(t *testing.T) {
	r := rand.New(rand.NewPCG(9, 2))
	seen := map[string]int{}
	one, none := 0, 0
	for range 2500 {
		p := madeUpProg(r)
		if len(p.Nodes) > api.MaxNodes {
			continue
		}
		if !tree.Is(p) || !modelIs(p) {
			t.Fatalf("Is(%s) = %v, the model says %v", short(p), tree.Is(p), modelIs(p))
		}
		for _, n := range p.Nodes {
			seen[n.Op]++
		}
		last := p
		for range 6 {
			q := spoilt(r, last)
			if want := modelIs(q); tree.Is(q) != want {
				t.Fatalf("Is(%s) = %v, made of %s", short(q), !want, short(last))
			}
			if want := alike(q, last); tree.Same(q, last) != want || tree.Same(last, q) != want {
				t.Fatalf("Same(%s, %s) = %v", short(q), short(last), !want)
			}
			if tree.Is(q) {
				last = q
				one++
			} else {
				none++
			}
		}
	}
	if one < 2000 || none < 2000 || len(seen) != 14 {
		t.Error("scripts that are ones:", one, "that are none:", none, seen)
	}
}

func TestAllSmallNumberings(t *testing.T) {
	// All scripts of up to three nodes, each of an Op that takes as many kids as it has, whatever kids these are.
	ops := []string{"cmd", "group", "if", "if", "case"}
	for n := 1; n <= 3; n++ {
		kids := lists(min(3, 5-n), n)
		at := make([]int, n)
		for {
			p := api.Prog{}
			for _, k := range at {
				x := node(ops[len(kids[k])], kids[k]...)
				if x.Op == "cmd" {
					x = c
				}
				p.Nodes = append(p.Nodes, x)
			}
			if want := modelIs(p); tree.Is(p) != want {
				t.Fatalf("Is(%s) = %v", short(p), !want)
			}
			if !next(at, len(kids)) {
				break
			}
		}
	}
}

// lists are all lists of at most so many of -1 to n.
func lists(most, n int) [][]int {
	l := [][]int{nil}
	for i := 0; i < len(l); i++ {
		if len(l[i]) == most {
			break
		}
		for k := -1; k <= n; k++ {
			l = append(l, append(l[i][:len(l[i]):len(l[i])], k))
		}
	}
	return l
}

// next counts up; false behind the last one.
func next(at []int, n int) bool {
	for i := range at {
		at[i]++
		if at[i] < n {
			return true
		}
		at[i] = 0
	}
	return false
}

func TestPairsOfOps(t *testing.T) {
	// Each Op within each Op at each place, also with redirs, assigns, another name and another word, against the model.
	var tops []api.Node
	for _, x := range sized {
		for n := x.least; n <= min(3, x.most); n++ {
			top := least(x.op, n)[0]
			tops = append(tops, top, going(top, ">", a), giving(top, "x", a))
			top.Name = "if"
			tops = append(tops, top)
			top.Name = ""
			top.Words = words("done")
			tops = append(tops, top, giving(top, "x", a))
		}
	}
	for _, top := range tops {
		for _, low := range tops {
			for place := range max(1, len(top.Kids)) {
				p := joined(top, place, low)
				if want := modelIs(p); tree.Is(p) != want {
					t.Fatalf("Is(%s) = %v", short(p), !want)
				}
			}
		}
	}
}

// joined is a node with another one as its kid at that place, and commands as all other kids, but groups where a function has one.
func joined(top api.Node, place int, low api.Node) api.Prog {
	var p api.Prog
	var put func(n api.Node, place int)
	put = func(n api.Node, place int) {
		at := len(p.Nodes)
		n = clone(n)
		p.Nodes = append(p.Nodes, n)
		for i := range n.Kids {
			n.Kids[i] = len(p.Nodes)
			switch {
			case i == place:
				put(low, -1)
			case p.Nodes[at].Op == "fun":
				put(node("group", 0), -1)
			default:
				put(c, -1)
			}
		}
	}
	put(top, place)
	return p
}

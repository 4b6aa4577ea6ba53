package tree_test

import (
	"strings"
	"testing"

	"lazarus/api"
	"lazarus/tree"
)

// a is a word, and c a command, of which nothing is to be told.
var (
	a = word(lit("a"))
	c = cmd("a")
)

// checkIs holds what Is tells against what it should tell.
func checkIs(t *testing.T, want bool, l ...api.Node) {
	t.Helper()
	if tree.Is(prog(l...)) != want {
		t.Errorf("Is(%s) = %v", short(l), !want)
	}
}

func TestExampleOfTheChapter(t *testing.T) {
	checkIs(t, true, api.Node{Op: "cmd", Words: []api.Word{{Parts: []api.Part{{Kind: api.Lit, Text: "a"}}}}})
}

func TestOrdinaryScripts(t *testing.T) {
	checkIs(t, true, node("seq", 1, 2, 5), giving(api.Node{Op: "cmd"}, "x", word(quoted(""))), node("and", 3, 4), c, cmd("b c"), going(cmd("d"), ">>", a))
	checkIs(t, true, node("if", 1, 4, 5), node("and", 2, 3), c, c, c, node("if", 6, 7), c, c)
	checkIs(t, true, node("while", 1, 3), node("not", 2), c, node("seq", 4, 5), c, going(node("until", 6, 7), "<", a), c, c)
	checkIs(t, true, fun("f", 1), node("group", 2), going(loop("i", 3, "a b *.c"), ">", word(param("x", ""))), node("pipe", 4, 5), c, node("sub", 6), c)
	checkIs(t, true, choice(word(in(param("x", ""))), []int{1, 4}, words("a b"), words("*")), node("seq", 2, 3), c, c, c)
	checkIs(t, true, node("pipe", 1, 2, 4), c, node("group", 3), c, choice(a, nil))
}

func TestHowManyNodes(t *testing.T) {
	checkIs(t, false)
	if tree.Is(api.Prog{}) || tree.Is(api.Prog{Nodes: []api.Node{}}) {
		t.Error("a script of no node is one")
	}
	checkIs(t, true, c)
	for _, n := range []int{2, 3, 100, api.MaxNodes - 2, api.MaxNodes - 1, api.MaxNodes, api.MaxNodes + 1, 1000} {
		// Side by side, and one within the other.
		wide := []api.Node{node("seq")}
		for i := 1; i <= n; i++ {
			wide[0].Kids = append(wide[0].Kids, i)
			wide = append(wide, c)
		}
		checkIs(t, n+1 <= api.MaxNodes, wide...)
		var tall []api.Node
		for i := range n {
			tall = append(tall, node("group", i+1))
		}
		checkIs(t, n+1 <= api.MaxNodes, append(tall, c)...)
		checkIs(t, false, tall...)
	}
}

func TestRootIsTheFirst(t *testing.T) {
	nodes := []api.Node{node("seq", 1, 2), c, c}
	for root := -2; root < 5; root++ {
		if tree.Is(api.Prog{Nodes: nodes, Root: root}) != (root == 0) {
			t.Error("Root", root)
		}
	}
	for _, p := range []api.Prog{
		{Nodes: []api.Node{c}, Root: 1}, {Nodes: []api.Node{c}, Root: -1}, {Nodes: []api.Node{c, node("group", 0)}, Root: 1},
		{Nodes: []api.Node{c, node("group", 2), c}, Root: 1}, {Root: 0}, {Root: -1}, {Root: 1},
	} {
		if tree.Is(p) {
			t.Errorf("Is(%+v)", p)
		}
	}
}

func TestKidsStandInOrder(t *testing.T) {
	checkIs(t, true, node("seq", 1, 2), c, c)
	checkIs(t, true, node("seq", 1, 4), node("group", 2), node("group", 3), c, c)
	checkIs(t, true, node("seq", 1, 2), c, node("group", 3), node("group", 4), c)
	for _, kids := range [][]int{
		{2, 1}, {1, 1}, {2, 2}, {1, 3}, {3, 1}, {0, 1}, {1, 0}, {0, 0}, {-1, 1}, {1, -1}, {1, 2, 1}, {1, 2, 2}, {1, 2, 3}, {1, 2, 0}, {0, 1, 2}, {1}, {2}, {},
		{1, 1 << 40}, {1 << 40, 1}, {-1 << 63, 1}, {1, 1<<63 - 1},
	} {
		checkIs(t, false, node("seq", kids...), c, c)
	}
	// Some that are reached from nowhere, or twice, or that have themselves within.
	checkIs(t, false, c, c)
	checkIs(t, false, node("seq", 1, 2), c, c, c)
	checkIs(t, false, node("seq", 2, 3), c, c, c)
	checkIs(t, false, node("group", 1), c, node("group", 1))
	checkIs(t, false, node("seq", 1, 2), node("group", 3), node("group", 3), c)
	checkIs(t, false, node("seq", 1, 2), node("group", 3), node("group", 4), c, c)
	checkIs(t, false, node("group", 0))
	checkIs(t, false, node("group", 1), node("group", 0))
	checkIs(t, false, node("group", 1), node("group", 1))
	checkIs(t, false, node("group", 1), c, node("group", 3), node("group", 2))
	checkIs(t, false, node("group", -1), c)
	checkIs(t, false, node("group", 1))
	checkIs(t, false, node("group", 2), c, c)
	// Level by level is not the order of a walk.
	checkIs(t, false, node("seq", 1, 2), node("group", 3), c, c)
	checkIs(t, true, node("seq", 1, 3), node("group", 2), c, c)
	checkIs(t, false, node("seq", 2, 1), c, node("group", 3), c)
}

// sized are the Ops, with how few and how many Kids each has at least and at most.
var sized = []struct {
	op          string
	least, most int
}{
	{"cmd", 0, 0}, {"seq", 2, 5}, {"and", 2, 2}, {"or", 2, 2}, {"not", 1, 1}, {"pipe", 2, 5}, {"if", 2, 3}, {"while", 2, 2}, {"until", 2, 2}, {"for", 1, 1}, {"case", 0, 5}, {"fun", 1, 1}, {"group", 1, 1}, {"sub", 1, 1},
}

// least is the least that a node of an Op has, with the kids 1 to n, and these.
func least(op string, n int) []api.Node {
	x := api.Node{Op: op}
	kid := c
	switch op {
	case "cmd":
		x = c
	case "for", "fun":
		x.Name = "x"
	case "case":
		x.Words = words("a")
		for range n {
			x.Pats = append(x.Pats, words("p"))
		}
	}
	all := []api.Node{x}
	at := 1
	for range n {
		all[0].Kids = append(all[0].Kids, at)
		if op == "fun" {
			all, at = append(all, node("sub", at+1), kid), at+2
		} else {
			all, at = append(all, kid), at+1
		}
	}
	return all
}

func TestHowManyKids(t *testing.T) {
	for _, x := range sized {
		for n := range 6 {
			checkIs(t, x.least <= n && n <= x.most, least(x.op, n)...)
		}
	}
}

func TestAnOpThatIsNone(t *testing.T) {
	for _, op := range []string{"", " ", "CMD", "Cmd", "cmd ", "cm", "cmds", "sequence", "elif", "case ", "function", "redir", "list", "&&", "||", "!", "|", ";", "{", "(", "assign", "\x00", "\xff", strings.Repeat("seq", 1000)} {
		for n := range 4 {
			checkIs(t, false, least(op, n)...)
		}
		checkIs(t, false, api.Node{Op: op, Words: words("a")})
		checkIs(t, false, node("group", 1), api.Node{Op: op, Words: words("a")})
		checkIs(t, false, node("seq", 1, 2), c, node(op))
	}
}

func TestFieldsThatAnOpHasNot(t *testing.T) {
	for _, x := range sized {
		for n := x.least; n <= x.most; n++ {
			l := least(x.op, n)
			check := func(want bool, change func(*api.Node)) {
				t.Helper()
				m := clone(l)
				change(&m[0])
				checkIs(t, want, m...)
				// And of one that is not the Root.
				m = append([]api.Node{node("group", 1)}, m...)
				for i := range m[1:] {
					for k := range m[i+1].Kids {
						m[i+1].Kids[k]++
					}
				}
				checkIs(t, want, m...)
			}
			named := x.op == "for" || x.op == "fun"
			check(true, func(*api.Node) {})
			check(named, func(n *api.Node) { n.Name = "y" })
			check(!named, func(n *api.Node) { n.Name = "" })
			check(x.op == "for", func(n *api.Node) { n.Name = "if" })
			check(x.op == "cmd" || x.op == "for", func(n *api.Node) { n.Words = append(n.Words, a) })
			check(x.op == "cmd" || x.op == "for", func(n *api.Node) { n.Words = words("a b c") })
			check(x.op != "cmd" && x.op != "case", func(n *api.Node) { n.Words = []api.Word{} })
			check(x.op == "cmd" || x.op == "for" || x.op == "case", func(n *api.Node) { n.Words = []api.Word{a} })
			check(false, func(n *api.Node) { n.Pats = append(n.Pats, words("p")) })
			check(false, func(n *api.Node) { n.Pats = append(n.Pats, nil) })
			check(x.op != "case" || n == 0, func(n *api.Node) { n.Pats = [][]api.Word{} })
			check(x.op == "cmd", func(n *api.Node) { *n = giving(*n, "x", a) })
			check(true, func(n *api.Node) { n.Assigns = []api.Assign{} })
			for _, op := range []string{"<", ">", ">>"} {
				has := strings.Contains(" cmd if while until for case group sub ", " "+x.op+" ")
				check(has, func(n *api.Node) { *n = going(*n, op, a) })
				check(has, func(n *api.Node) { *n = going(going(*n, op, a), "<", word(quoted("b c"))) })
			}
			check(true, func(n *api.Node) { n.Redirs = []api.Redir{} })
		}
	}
}

func TestSignsOfRedirs(t *testing.T) {
	for _, op := range []string{"", "<<", ">>>", "<>", "><", ">|", ">&", "<&", "> ", " >", "&>", "|", "2>", "<<<", "\x00", "\xff", ">\xff", strings.Repeat(">", 1000)} {
		checkIs(t, false, going(c, op, a))
		checkIs(t, false, going(api.Node{Op: "cmd"}, op, a))
		checkIs(t, false, going(going(c, ">", a), op, a))
		checkIs(t, false, going(going(c, op, a), ">", a))
		checkIs(t, false, going(node("group", 1), op, a), c)
	}
	for _, op := range []string{"<", ">", ">>"} {
		checkIs(t, true, going(api.Node{Op: "cmd"}, op, a))
		checkIs(t, true, going(c, op, a))
		checkIs(t, true, going(going(going(c, op, a), "<", a), op, a))
		checkIs(t, false, going(c, op, word()))
		checkIs(t, false, going(api.Node{Op: "cmd"}, op, word(lit("a b"))))
	}
}

func TestACmdHasSomething(t *testing.T) {
	checkIs(t, false, api.Node{Op: "cmd"})
	checkIs(t, false, api.Node{Op: "cmd", Words: []api.Word{}, Assigns: []api.Assign{}, Redirs: []api.Redir{}})
	checkIs(t, true, cmd("a"))
	checkIs(t, true, giving(api.Node{Op: "cmd"}, "x", a))
	checkIs(t, true, going(api.Node{Op: "cmd"}, "<", a))
	checkIs(t, true, giving(cmd("a"), "x", a))
	checkIs(t, true, going(giving(api.Node{Op: "cmd"}, "x", a), "<", a))
	checkIs(t, true, going(giving(giving(cmd("a b"), "x", a), "x", a), "<", a))
}

func TestPatsOfACase(t *testing.T) {
	checkIs(t, true, choice(a, nil))
	checkIs(t, true, api.Node{Op: "case", Words: words("a"), Kids: []int{}, Pats: [][]api.Word{}})
	checkIs(t, false, choice(a, nil, words("p")))
	checkIs(t, false, choice(a, []int{1}), c)
	checkIs(t, true, choice(a, []int{1}, words("p")), c)
	checkIs(t, true, choice(a, []int{1}, words("p q p")), c)
	checkIs(t, false, choice(a, []int{1}, words("p"), words("q")), c)
	checkIs(t, false, choice(a, []int{1}, nil), c)
	checkIs(t, false, choice(a, []int{1}, []api.Word{}), c)
	checkIs(t, true, choice(a, []int{1, 2}, words("p"), words("q r")), c, c)
	checkIs(t, false, choice(a, []int{1, 2}, words("p"), nil), c, c)
	checkIs(t, false, choice(a, []int{1, 2}, nil, words("p")), c, c)
	checkIs(t, false, choice(a, []int{1, 2}, words("p q")), c, c)
	checkIs(t, false, choice(a, []int{1, 2}, words("p"), words("q"), words("r")), c, c)
	checkIs(t, true, choice(a, []int{1}, []api.Word{word(lit("esac"))}), c)
	checkIs(t, false, choice(a, []int{1}, []api.Word{a, word()}), c)
	checkIs(t, false, choice(a, []int{1}, []api.Word{word(), a}), c)
	// It is of one word.
	checkIs(t, false, api.Node{Op: "case"})
	checkIs(t, false, api.Node{Op: "case", Words: words("a b")})
	checkIs(t, true, choice(word(lit("in")), nil))
}

// names are names, noNames are none.
var (
	names   = []string{"a", "Z", "_", "_1", "a9", "aB_9", "echo", "abcdefghijkl", "____________"}
	noNames = []string{"1", "1a", "9", "-", "a-b", "a b", " a", "a ", "a=", "=", "\u00e9", "a\u00e9", "@", "#", "?", "$a", "a\x00", "\x00", "a\xff", "\xff", "a\n", "abcdefghijklm", "_____________", strings.Repeat("a", 5000), "{", "}", "!"}
)

func TestNamesAreNames(t *testing.T) {
	check := func(want bool, s string) {
		t.Helper()
		checkIs(t, want, loop(s, 1, "a"), c)
		checkIs(t, want, loop(s, 1, ""), c)
		checkIs(t, want, fun(s, 1), node("group", 2), c)
		checkIs(t, want, giving(api.Node{Op: "cmd"}, s, a))
		checkIs(t, want, giving(giving(cmd("a"), "x", a), s, a))
		checkIs(t, want, giving(giving(cmd("a"), s, a), "x", a))
	}
	for _, s := range names {
		check(true, s)
	}
	for _, s := range append([]string{""}, noNames...) {
		check(false, s)
	}
	// Of those that are Reserved only the names are names, and none is a function's.
	for _, s := range reservedWords {
		may := !strings.Contains("{}!", s)
		checkIs(t, false, fun(s, 1), node("group", 2), c)
		checkIs(t, false, fun(s, 1), node("sub", 2), c)
		checkIs(t, may, loop(s, 1, "a"), c)
		checkIs(t, may, giving(api.Node{Op: "cmd"}, s, a))
		checkIs(t, may, fun("x"+s, 1), node("group", 2), c)
		checkIs(t, may, fun(s+"x", 1), node("group", 2), c)
	}
}

// placed are scripts that have a word at one of the places where one may stand, but not as the first of a cmd.
func placed(w api.Word) map[string][]api.Node {
	two := []api.Word{a, w}
	return map[string][]api.Node{
		"a cmd's second":     {{Op: "cmd", Words: two}},
		"a cmd's third":      {{Op: "cmd", Words: []api.Word{a, a, w, a}}},
		"a for's first":      {{Op: "for", Name: "x", Kids: []int{1}, Words: []api.Word{w, a}}, c},
		"a for's only":       {{Op: "for", Name: "x", Kids: []int{1}, Words: []api.Word{w}}, c},
		"a for's second":     {{Op: "for", Name: "x", Kids: []int{1}, Words: two}, c},
		"a case's":           {choice(w, nil)},
		"a case's, of kids":  {choice(w, []int{1}, words("p")), c},
		"a pat's first":      {choice(a, []int{1}, []api.Word{w, a}), c},
		"a pat's only":       {choice(a, []int{1}, []api.Word{w}), c},
		"a pat's second":     {choice(a, []int{1}, two), c},
		"a second pat's":     {choice(a, []int{1, 2}, words("p"), []api.Word{w}), c, c},
		"a cmd's redir's":    {going(c, "<", w)},
		"redirs alone":       {going(api.Node{Op: "cmd"}, ">", w)},
		"a second redir's":   {going(going(c, "<", a), ">>", w)},
		"a redir's, assigns": {going(giving(api.Node{Op: "cmd"}, "x", a), ">", w)},
		"an if's redir's":    {going(node("if", 1, 2), ">", w), c, c},
		"a while's redir's":  {going(node("while", 1, 2), ">", w), c, c},
		"an until's redir's": {going(node("until", 1, 2), ">", w), c, c},
		"a for's redir's":    {going(loop("x", 1, "a"), ">", w), c},
		"a case's redir's":   {going(choice(a, nil), ">", w)},
		"a group's redir's":  {going(node("group", 1), ">", w), c},
		"a sub's redir's":    {going(node("sub", 1), ">", w), c},
		"a kid's":            {node("seq", 1, 2), c, {Op: "cmd", Words: two}},
		"a kid's redir's":    {node("group", 1), going(c, ">", w)},
	}
}

// first are scripts that have a word as the first of a cmd; given has assigns ahead of it.
func first(w api.Word) [][]api.Node {
	n := api.Node{Op: "cmd", Words: []api.Word{w}}
	more := api.Node{Op: "cmd", Words: []api.Word{w, a}}
	return [][]api.Node{{n}, {more}, {going(n, ">", a)}, {node("not", 1), n}, {node("pipe", 1, 2), c, more}}
}

func given(w api.Word) [][]api.Node {
	n := api.Node{Op: "cmd", Words: []api.Word{w}}
	return [][]api.Node{{giving(n, "x", a)}, {giving(giving(n, "x", a), "y", word(quoted("")))}, {going(giving(n, "x", a), "<", a)}, {node("sub", 1), giving(n, "x", a)}}
}

// to are scripts that have a word as what an assign is to.
func to(w api.Word) [][]api.Node {
	return [][]api.Node{{giving(api.Node{Op: "cmd"}, "x", w)}, {giving(c, "x", w)}, {giving(giving(c, "x", a), "y", w)}, {giving(giving(c, "x", w), "y", a)}, {node("group", 1), giving(c, "x", w)}}
}

// checkPlaces holds whether a word may stand at each place.
func checkPlaces(t *testing.T, w api.Word, isFirst, isGiven, isTo, isElse bool) {
	t.Helper()
	for _, l := range first(w) {
		checkIs(t, isFirst, l...)
	}
	for _, l := range given(w) {
		checkIs(t, isGiven, l...)
	}
	for _, l := range to(w) {
		checkIs(t, isTo, l...)
	}
	for where, l := range placed(w) {
		if tree.Is(prog(l...)) != isElse {
			t.Errorf("%s word %+v: %v", where, w, !isElse)
		}
	}
}

func TestWordsAtEachPlace(t *testing.T) {
	for _, w := range []api.Word{a, word(lit("*")), word(lit("="), quoted("x")), word(quoted("")), word(quoted(" ")), word(in(param("x", ""))), word(param("x", ":-", lit("a b"))), word(arith("1")), word(lit("1x=2")), word(lit("=")), word(lit("\u00e9=")), word(lit("x"), quoted("=")), word(lit("x"), param("y", ""), lit("=1")), word(lit("abcdefghijklm=1")), word(lit("x+=1")), word(lit("a#")), word(lit("==")), word(lit("-x=1")), word(lit("=x=1"))} {
		checkPlaces(t, w, true, true, true, true)
	}
	for _, w := range []api.Word{word(), word(lit("")), word(lit("a b")), word(lit("a"), lit("b")), word(quoted("\xff")), word(lit("\x00")), word(param("", "")), word(arith("(")), word(api.Part{}), word(deep(21, lit("x"))...), word(lit("a"), param("x", ":-", lit("}")))} {
		checkPlaces(t, w, false, false, false, false)
	}
}

func TestWordsThatBeginARemark(t *testing.T) {
	for _, w := range []api.Word{word(lit("#")), word(lit("#a")), word(lit("##")), word(lit("#x=1")), word(lit("#if")), word(lit("#"), quoted("a")), word(lit("#a"), param("x", "")), word(lit("#\u00e9"))} {
		checkPlaces(t, w, false, false, true, false)
	}
	for _, w := range []api.Word{word(quoted("#")), word(quoted("#"), lit("a")), word(quoted(""), lit("#")), word(param("#", "")), word(param("x", ""), lit("#")), word(lit("a#")), word(param("x", ":-", lit("#"))), word(arith("1"), lit("#")), word(param("x", "#"))} {
		checkPlaces(t, w, true, true, true, true)
	}
}

func TestFirstWordIsNoAssign(t *testing.T) {
	for _, s := range names {
		for _, w := range []api.Word{word(lit(s + "=")), word(lit(s + "=1")), word(lit(s + "==")), word(lit(s + "=a=b")), word(lit(s+"="), quoted("x")), word(lit(s+"="), param("x", "")), word(lit(s+"=1"), in(arith("1")), lit("x")), word(lit(s + "=#")), word(lit(s + "=\u00e9"))} {
			checkPlaces(t, w, false, false, true, true)
		}
		for _, w := range []api.Word{word(quoted(s + "=1")), word(quoted(s), lit("=1")), word(lit(s), quoted("=1")), word(quoted(""), lit(s+"=1")), word(param("x", ""), lit(s+"=1")), word(lit(s), param("x", ""), lit("=1")), word(lit(s), quoted(""), lit("=1")), word(lit(s + "+=1")), word(lit(s + "[0]=1")), word(lit(s + "-=1")), word(lit("-" + s + "=1"))} {
			checkPlaces(t, w, true, true, true, true)
		}
	}
	for _, s := range []string{"", "1", "1a", "9", "-", "a-b", "\u00e9", "a\u00e9", "@", "a.", "abcdefghijklm", "_____________", strings.Repeat("a", 3000)} {
		checkPlaces(t, word(lit(s+"=1")), true, true, true, true)
		checkPlaces(t, word(lit(s+"="), quoted("x")), true, true, true, true)
		checkPlaces(t, word(lit(s+"=a=1")), true, true, true, true)
	}
	// A name that is Reserved is a name.
	checkPlaces(t, word(lit("if=1")), false, false, true, true)
	checkPlaces(t, word(lit("{=1")), true, true, true, true)
}

func TestFirstWordIsNotReserved(t *testing.T) {
	for _, s := range reservedWords {
		checkPlaces(t, word(lit(s)), false, true, true, true)
		for _, w := range []api.Word{word(quoted(s)), word(lit(s), quoted("")), word(quoted(""), lit(s)), word(lit(s + "x")), word(lit("x" + s)), word(lit(s), param("x", "")), word(lit(s[:1]), quoted(s[1:])), word(lit(s + "}")), word(param("x", ":-", lit("if")))} {
			checkPlaces(t, w, true, true, true, true)
		}
		// Redirs ahead of it do not count.
		checkIs(t, false, going(cmd(s), ">", a))
		checkIs(t, false, going(cmd(s+" a"), ">", a))
	}
}

func TestKidsAsTheGrammarHasThem(t *testing.T) {
	kids := map[string][]api.Node{"fun with": least("fun", 1), "redirs": {going(node("group", 1), ">", a), c}, "sub's": {going(node("sub", 1), "<", a), c}}
	for _, x := range sized {
		kids[x.op] = least(x.op, x.least)
	}
	none := map[string]string{
		"seq 0": "seq", "seq 1": "seq", "seq 2": "seq",
		"and 0": "seq", "and 1": "seq and or", "or 0": "seq", "or 1": "seq and or",
		"not 0":  "seq and or not",
		"pipe 0": "seq and or not pipe", "pipe 1": "seq and or not pipe", "pipe 2": "seq and or not pipe",
		"fun 0": "cmd seq and or not pipe if while until for case fun redirs sub's",
	}
	for _, x := range sized {
		for n := max(x.least, 1); n <= min(x.most, 3); n++ {
			for place := range n {
				for op, kid := range kids {
					op, _, _ = strings.Cut(op, " ")
					want := true
					for _, s := range strings.Fields(none[x.op+" "+string(rune('0'+place))]) {
						want = want && s != op
					}
					checkIs(t, want, around(x.op, n, place, kid)...)
				}
			}
		}
	}
}

// around is a node of an Op with n kids, one of them at that place.
func around(op string, n, place int, kid []api.Node) []api.Node {
	x := least(op, n)[0]
	x.Kids = nil
	l := []api.Node{x}
	for i := range n {
		l[0].Kids = append(l[0].Kids, len(l))
		if i != place {
			l = append(l, c)
			continue
		}
		at := len(l)
		for _, k := range clone(kid) {
			for j := range k.Kids {
				k.Kids[j] += at
			}
			l = append(l, k)
		}
	}
	return l
}

func TestRowsAndThoseWithin(t *testing.T) {
	// a && b || c has the left ones first; c && d within the right one needs braces.
	checkIs(t, true, node("or", 1, 4), node("and", 2, 3), c, c, c)
	checkIs(t, false, node("and", 1, 2), c, node("or", 3, 4), c, c)
	checkIs(t, true, node("and", 1, 2), c, node("group", 3), node("or", 4, 5), c, c)
	checkIs(t, true, node("and", 1, 3), node("not", 2), c, node("not", 4), node("pipe", 5, 6), c, c)
	checkIs(t, false, node("pipe", 1, 3), node("not", 2), c, c)
	checkIs(t, true, node("seq", 1, 4), node("and", 2, 3), c, c, node("pipe", 5, 6), c, c)
	checkIs(t, false, node("seq", 1, 4), node("seq", 2, 3), c, c, c)
	checkIs(t, true, node("seq", 1, 5), node("group", 2), node("seq", 3, 4), c, c, c)
	// A fault far within is one.
	checkIs(t, false, node("group", 1), node("sub", 2), node("group", 3), node("seq", 4, 7), node("seq", 5, 6), c, c, c)
	checkIs(t, true, node("not", 1), fun("f", 2), node("sub", 3), c)
	checkIs(t, true, node("pipe", 1, 4), fun("f", 2), node("group", 3), c, fun("g", 5), node("sub", 6), node("seq", 7, 8), c, c)
}

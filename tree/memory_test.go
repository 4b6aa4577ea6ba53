package tree_test

import (
	"math"
	"math/rand/v2"
	"strings"
	"testing"

	"lazarus/api"
	"lazarus/tree"
)

// room is a list with room behind its end, in which something stands.
func room[T any](l []T, behind T) []T {
	return append(append(make([]T, 0, len(l)+3), l...), behind, behind, behind)[:len(l)]
}

// roomy is a script whose lists all have such room.
func roomy(p api.Prog) api.Prog {
	p = clone(p)
	for _, v := range places(&p) {
		switch x := v.Addr().Interface().(type) {
		case *[]api.Node:
			*x = room(*x, cmd("behind"))
		case *[]int:
			*x = room(*x, 77)
		case *[]api.Word:
			*x = room(*x, a)
		case *[][]api.Word:
			*x = room(*x, words("p"))
		case *[]api.Assign:
			*x = room(*x, api.Assign{Name: "x", To: a})
		case *[]api.Redir:
			*x = room(*x, api.Redir{Op: ">", To: a})
		case *[]api.Part:
			*x = room(*x, lit("behind"))
		}
	}
	return p
}

// whole is a script with all that stands behind its lists' ends.
func whole(p api.Prog) string {
	p = clone(p)
	for _, v := range places(&p) {
		if has(v, 0) {
			v.Set(v.Slice(0, v.Cap()))
		}
	}
	return longText(p)
}

func TestWhatIsHandedInStays(t *testing.T) {
	r := rand.New(rand.NewPCG(9, 3))
	for i := range 300 {
		p := full()
		if i > 0 {
			p = madeUpProg(r)
		}
		if i%2 == 1 {
			p = spoilt(r, p)
		}
		p = roomy(p)
		q := clone(p)
		was := whole(p)
		want := tree.Is(p)
		for range 2 {
			if tree.Is(p) != want || !tree.Same(p, q) || !tree.Same(q, p) || !tree.Same(p, p) {
				t.Fatal("another answer at another time", short(p))
			}
		}
		for _, n := range p.Nodes {
			for _, w := range n.Words {
				tree.Word(w)
				tree.Plain(w)
			}
		}
		if whole(p) != was || whole(q) != was {
			t.Fatal("changed", short(p))
		}
	}
}

func TestAnswersStay(t *testing.T) {
	l := []api.Part{lit("if")}
	s, ok := tree.Plain(api.Word{Parts: l})
	l[0] = lit("no")
	tree.Plain(api.Word{Parts: l})
	if s != "if" || !ok {
		t.Error("Plain became", s, ok)
	}
	// Nothing of an elder call is kept.
	p := full()
	q := clone(p)
	if !tree.Is(p) || !tree.Same(p, q) {
		t.Error("full")
	}
	p.Nodes[6].Words[0].Parts[0].Text = "a b"
	if tree.Is(p) || tree.Same(p, q) || !tree.Is(q) {
		t.Error("full that is changed")
	}
	p.Nodes[6].Words[0].Parts[0].Text = "a"
	if !tree.Is(p) || !tree.Same(p, q) {
		t.Error("full that is changed back")
	}
}

func TestGreatOnesEnd(t *testing.T) {
	long := strings.Repeat("a\u00e9", 1<<18)
	many := make([]api.Part, 0, 1<<17)
	for range 1 << 16 {
		many = append(many, lit("a"), quoted("b"))
	}
	checkWord(t, true, lit(long))
	checkWord(t, false, lit(long+"\xff"))
	checkWord(t, false, lit(long+" "))
	checkWord(t, true, many...)
	checkWord(t, false, append(many, quoted("c"))...)
	checkWord(t, true, param("a", ":-", many...))
	checkWord(t, false, param(long, ""))
	checkWord(t, false, param("a", long))
	checkWord(t, false, deep(1<<16, lit("a"))...)
	checkWord(t, true, arith(strings.Repeat("(", 1<<18)+strings.Repeat(")", 1<<18)))
	checkWord(t, false, arith(strings.Repeat("(", 1<<18)))
	if s, ok := tree.Plain(word(lit(long))); s != long || !ok {
		t.Error("Plain of a long one")
	}
	if tree.Reserved(long) {
		t.Error("Reserved of a long one")
	}
	w := make([]api.Word, 1<<16)
	for i := range w {
		w[i] = a
	}
	checkIs(t, true, api.Node{Op: "cmd", Words: w})
	checkIs(t, true, api.Node{Op: "for", Name: "x", Kids: []int{1}, Words: w}, c)
	checkIs(t, true, choice(a, []int{1}, w), c)
	checkIs(t, false, api.Node{Op: "case", Words: w})
	checkIs(t, false, node("seq", make([]int, 1<<16)...), c)
	checkIs(t, false, make([]api.Node, 1<<16)...)
	if tree.Same(prog(make([]api.Node, 1<<16)...), prog(make([]api.Node, 1<<16+1)...)) || !tree.Same(prog(make([]api.Node, 1<<16)...), prog(make([]api.Node, 1<<16)...)) {
		t.Error("Same of many")
	}
}

func TestAnyNumbers(t *testing.T) {
	for _, n := range []int{math.MinInt, math.MinInt32, -2, -1, 0, 1, 2, 200, 201, math.MaxInt32, math.MaxInt} {
		for _, m := range []int{math.MinInt, -1, 0, 1, 2, math.MaxInt} {
			p := api.Prog{Nodes: []api.Node{node("seq", n, m), c, c}, Root: 0}
			if tree.Is(p) != (n == 1 && m == 2) {
				t.Error("kids", n, m)
			}
			p.Root = n
			if tree.Is(p) {
				t.Error("Root", n, "kids", n, m)
			}
			tree.Same(p, p)
		}
	}
	tree.Word(word(api.Part{Kind: math.MinInt}))
	tree.Plain(word(api.Part{Kind: math.MinInt}))
}

// FuzzAgainstTheModel holds Word and Is of made up ones against the models.
func FuzzAgainstTheModel(f *testing.F) {
	f.Add(uint64(1), "a", ":-", true, 3)
	f.Add(uint64(2), "", "#", false, 1)
	f.Add(uint64(3), "#", "", false, 0)
	f.Add(uint64(4), "x=1", "x", false, 1)
	f.Fuzz(func(t *testing.T, seed uint64, text, op string, in bool, kind int) {
		p := api.Part{Kind: kind % 5, Text: text, Op: op, Quoted: in}
		// What the lexer is too short for is not asked.
		if len(text)+len(op) > 300 {
			return
		}
		for _, q := range []api.Part{p, {Kind: p.Kind, Text: text, Quoted: in}, {Kind: p.Kind, Text: op}} {
			checkByModel(t, q)
			checkByModel(t, param("a", ":-", q))
			checkByModel(t, param("a", ":+", quoted("x"), flipped(q)), q)
		}
		r := rand.New(rand.NewPCG(seed, 4))
		prog := madeUpProg(r)
		for range r.IntN(3) {
			prog = spoilt(r, prog)
		}
		all := places(&prog)
		v := all[r.IntN(len(all))]
		if x, ok := v.Addr().Interface().(*string); ok {
			*x = text
		}
		if want := modelIs(prog); tree.Is(prog) != want {
			t.Errorf("Is(%s) = %v", short(prog), !want)
		}
	})
}

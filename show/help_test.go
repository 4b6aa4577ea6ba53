package show_test

import (
	"fmt"
	"reflect"
	"testing"

	"lazarus/api"
	"lazarus/lex"
	"lazarus/parse"
	"lazarus/show"
	"lazarus/tree"
)

// lit, quoted, param, arith are parts; in is one that stood within quotes.
func lit(s string) api.Part    { return api.Part{Kind: api.Lit, Text: s} }
func quoted(s string) api.Part { return in(lit(s)) }
func arith(s string) api.Part  { return api.Part{Kind: api.Arith, Text: s} }

func param(whose, op string, l ...api.Part) api.Part {
	return api.Part{Kind: api.Var, Text: whose, Op: op, Word: l}
}

func in(p api.Part) api.Part {
	p.Quoted = true
	return p
}

// deep is parts within the Words of n Vars.
func deep(n int, l ...api.Part) []api.Part {
	for range n {
		l = []api.Part{param("a", ":-", l...)}
	}
	return l
}

// word is a word of these parts.
func word(l ...api.Part) api.Word { return api.Word{Parts: l} }

// words are those that the lexer makes of a text.
func words(s string) []api.Word {
	l, _, e := lex.Tokens(s)
	if e != api.OK {
		panic("no words: " + s)
	}
	var w []api.Word
	for _, k := range l[:len(l)-1] {
		if k.Kind != api.TWord {
			panic("not words alone: " + s)
		}
		w = append(w, k.Word)
	}
	return w
}

// made is a node with its kids at hand.
type made struct {
	api.Node
	kids []made
}

// op is a node of kids alone.
func op(op string, kids ...made) made { return made{api.Node{Op: op}, kids} }

// cmd is a command of the words of a text, bare one that has nothing.
func cmd(s string) made { return made{Node: api.Node{Op: "cmd", Words: words(s)}} }

var bare = made{Node: api.Node{Op: "cmd"}}

// gives is a node with one more assign, goes one with one more redir.
func (m made) gives(name, s string) made {
	m.Assigns = append(m.Assigns[:len(m.Assigns):len(m.Assigns)], api.Assign{Name: name, To: words(s)[0]})
	return m
}

func (m made) goes(op, s string) made {
	m.Redirs = append(m.Redirs[:len(m.Redirs):len(m.Redirs)], api.Redir{Op: op, To: words(s)[0]})
	return m
}

// each is a for, choice a case that has no kids, fun a function.
func each(name, s string, kid made) made {
	return made{api.Node{Op: "for", Name: name, Words: words(s)}, []made{kid}}
}

func choice(s string) made { return made{Node: api.Node{Op: "case", Words: words(s)}} }

func fun(name string, kid made) made {
	return made{api.Node{Op: "fun", Name: name}, []made{kid}}
}

// has is a case with one more kid.
func (m made) has(pats string, kid made) made {
	m.Pats = append(m.Pats[:len(m.Pats):len(m.Pats)], words(pats))
	m.kids = append(m.kids[:len(m.kids):len(m.kids)], kid)
	return m
}

// size is how many nodes it has.
func (m made) size() int {
	n := 1
	for _, kid := range m.kids {
		n += kid.size()
	}
	return n
}

// prog is a script of it: each node stands at the place that the sizes of all ahead of it come to.
func (m made) prog() api.Prog {
	p := api.Prog{Nodes: make([]api.Node, m.size())}
	m.put(p.Nodes, 0)
	return p
}

func (m made) put(to []api.Node, at int) {
	n := m.Node
	n.Kids = nil
	next := at + 1
	for _, kid := range m.kids {
		n.Kids = append(n.Kids, next)
		kid.put(to, next)
		next += kid.size()
	}
	to[at] = n
}

// unmade is a script as a node with its kids at hand.
func unmade(p api.Prog, at int) made {
	m := made{Node: p.Nodes[at]}
	for _, kid := range m.Kids {
		m.kids = append(m.kids, unmade(p, kid))
	}
	m.Kids = nil
	return m
}

// alike holds two values against each other; a nil list and an empty one are the same.
func alike[T any](a, b T) bool { return alikeValues(reflect.ValueOf(a), reflect.ValueOf(b)) }

func alikeValues(a, b reflect.Value) bool {
	n, at := 0, reflect.Value.Field
	switch a.Kind() {
	case reflect.Struct:
		n = a.NumField()
	case reflect.Slice:
		if a.Len() != b.Len() {
			return false
		}
		n, at = a.Len(), reflect.Value.Index
	default:
		return a.Equal(b)
	}
	for i := range n {
		if !alikeValues(at(a, i), at(b, i)) {
			return false
		}
	}
	return true
}

// short is a value in few enough letters to be read.
func short(x any) string { return fmt.Sprintf("%.900s", fmt.Sprintf("%+v", x)) }

// check holds a script's text against what it should be.
func check(t *testing.T, m made, want string) {
	t.Helper()
	p := m.prog()
	if !tree.Is(p) {
		t.Fatalf("no script: %s", short(p))
	}
	if s := show.Text(p); s != want {
		t.Errorf("Text = %.900q, not %.900q, of %s", s, want, short(p))
	}
	if s := modelText(m); s != want {
		t.Errorf("the model has %.900q, not %.900q, of %s", s, want, short(p))
	}
	checkParsed(t, m, want)
}

// checkByModel holds a script's text against the model; it tells what the text parses as.
func checkByModel(t *testing.T, m made) api.Errno {
	t.Helper()
	p, want := m.prog(), modelText(m)
	if s := show.Text(p); s != want {
		t.Errorf("Text = %.900q, not %.900q, of %s", s, want, short(p))
	}
	return checkParsed(t, m, want)
}

// checkParsed holds what a script's text is parsed as against that script; it is an error if it is too long or too deep, and only then.
func checkParsed(t *testing.T, m made, s string) api.Errno {
	t.Helper()
	p := m.prog()
	q, at, e := parse.Parse(s)
	if len(s) > api.MaxText || modelDepth(m) >= api.MaxDepth {
		if e != api.ErrLimit {
			t.Errorf("Parse(%.900q) is %v, but the text is too long or too deep", s, e)
		}
		return e
	}
	if e != api.OK || at != len(s) || !tree.Same(p, q) || !alike(p, q) {
		t.Errorf("Parse(%.900q) = %s, %d, %v, not %s", s, short(q), at, e, short(p))
	}
	return e
}

// checkWord holds a word's text against what it should be, and the word against what the lexer makes of that.
func checkWord(t *testing.T, want string, l ...api.Part) {
	t.Helper()
	w := word(l...)
	if !tree.Word(w) {
		t.Fatalf("no word: %s", short(w))
	}
	if s := show.Word(w); s != want {
		t.Errorf("Word = %.900q, not %.900q, of %s", s, want, short(w))
	}
	if s := modelWord(l); s != want {
		t.Errorf("the model has %.900q, not %.900q, of %s", s, want, short(w))
	}
	checkRead(t, want, l)
}

// checkRead holds what the lexer makes of a word's text against its parts.
func checkRead(t *testing.T, s string, l []api.Part) {
	t.Helper()
	// Behind a parameter a word begins no remark.
	got, _, e := lex.Tokens("$?" + s)
	if len(s) > api.MaxText-2 || modelPartsDepth(l) >= api.MaxDepth {
		if e != api.ErrLimit {
			t.Errorf("Tokens(%.900q) is %v, but the text is too long or too deep", s, e)
		}
		return
	}
	if e != api.OK || len(got) != 2 || !alike(got[0].Word.Parts, append([]api.Part{param("?", "")}, l...)) {
		t.Errorf("Tokens(%.900q) = %s, %v, not %s", s, short(got), e, short(l))
	}
}

// a to d are commands of one word.
var a, b, c, d = cmd("a"), cmd("b"), cmd("c"), cmd("d")

package parse_test

import (
	"fmt"
	"reflect"
	"strings"
	"testing"

	"lazarus/api"
	"lazarus/lex"
	"lazarus/parse"
	"lazarus/tree"
)

// lit, quoted, param, arith are parts; in is one that stood within quotes.
func lit(s string) api.Part    { return api.Part{Kind: api.Lit, Text: s} }
func quoted(s string) api.Part { return in(lit(s)) }
func arith(s string) api.Part  { return api.Part{Kind: api.Arith, Text: s} }

func param(whose, op string, l ...api.Part) api.Part {
	return api.Part{Kind: api.Var, Text: whose, Op: op, Word: l}
}

func in(p api.Part) api.Part {
	p.Quoted = true
	return p
}

// words are those that the lexer makes of a text.
func words(s string) []api.Word {
	l, _, e := lex.Tokens(s)
	if e != api.OK {
		panic("no words: " + s)
	}
	var w []api.Word
	for _, k := range l[:len(l)-1] {
		if k.Kind != api.TWord {
			panic("not words alone: " + s)
		}
		w = append(w, k.Word)
	}
	return w
}

// made is a node with its kids at hand.
type made struct {
	api.Node
	kids []made
}

// op is a node of kids alone.
func op(op string, kids ...made) made { return made{api.Node{Op: op}, kids} }

// cmd is a command of the words of a text, bare one that has nothing.
var bare = made{Node: api.Node{Op: "cmd"}}

func cmd(s string) made { return made{Node: api.Node{Op: "cmd", Words: words(s)}} }

// gives is a node with one more assign, goes one with one more redir.
func (m made) gives(name string, l ...api.Part) made {
	m.Assigns = append(m.Assigns[:len(m.Assigns):len(m.Assigns)], api.Assign{Name: name, To: api.Word{Parts: l}})
	return m
}

func (m made) goes(op, s string) made {
	m.Redirs = append(m.Redirs[:len(m.Redirs):len(m.Redirs)], api.Redir{Op: op, To: words(s)[0]})
	return m
}

// each is a for, choice a case that has no kids, fun a function.
func each(name, s string, kid made) made {
	return made{api.Node{Op: "for", Name: name, Words: words(s)}, []made{kid}}
}

func choice(s string) made { return made{Node: api.Node{Op: "case", Words: words(s)}} }

func fun(name string, kid made) made {
	return made{api.Node{Op: "fun", Name: name}, []made{kid}}
}

// has is a case with one more kid.
func (m made) has(pats string, kid made) made {
	m.Pats = append(m.Pats[:len(m.Pats):len(m.Pats)], words(pats))
	m.kids = append(m.kids[:len(m.kids):len(m.kids)], kid)
	return m
}

// size is how many nodes it has.
func (m made) size() int {
	n := 1
	for _, kid := range m.kids {
		n += kid.size()
	}
	return n
}

// prog is a script of it: each node stands at the place that the sizes of all ahead of it come to.
func (m made) prog() api.Prog {
	p := api.Prog{Nodes: make([]api.Node, m.size())}
	m.put(p.Nodes, 0)
	return p
}

func (m made) put(to []api.Node, at int) {
	n := m.Node
	next := at + 1
	for _, kid := range m.kids {
		n.Kids = append(n.Kids, next)
		kid.put(to, next)
		next += kid.size()
	}
	to[at] = n
}

// alike holds two values against each other; a nil list and an empty one are the same.
func alike[T any](a, b T) bool { return alikeValues(reflect.ValueOf(a), reflect.ValueOf(b)) }

func alikeValues(a, b reflect.Value) bool {
	n, at := 0, reflect.Value.Field
	switch a.Kind() {
	case reflect.Struct:
		n = a.NumField()
	case reflect.Slice:
		if a.Len() != b.Len() {
			return false
		}
		n, at = a.Len(), reflect.Value.Index
	default:
		return a.Equal(b)
	}
	for i := range n {
		if !alikeValues(at(a, i), at(b, i)) {
			return false
		}
	}
	return true
}

// short is a value in few enough letters to be read.
func short(x any) string { return fmt.Sprintf("%.900s", fmt.Sprintf("%+v", x)) }

// check holds what a text is parsed as against a script.
func check(t *testing.T, s string, want made) {
	t.Helper()
	p, at, e := parse.Parse(s)
	if e != api.OK || at != len(s) || !alike(p, want.prog()) {
		t.Errorf("Parse(%.300q) = %s, %d, %v, not %s", s, short(p), at, e, short(want.prog()))
	}
	if e == api.OK && !tree.Is(p) {
		t.Errorf("Parse(%.300q) is none: %s", s, short(p))
	}
}

// checkErr holds what a text that is no script comes to against its error.
func checkErr(t *testing.T, s string, wantAt int, want api.Errno) {
	t.Helper()
	p, at, e := parse.Parse(s)
	if e != want || at != wantAt || !alike(p, api.Prog{}) {
		t.Errorf("Parse(%.300q) = %s, %d, %v, not %d, %v", s, short(p), at, e, wantAt, want)
	}
}

// bad holds texts against ErrForm at the byte at which each has a ^, which is left out.
func bad(t *testing.T, l ...string) {
	t.Helper()
	for _, s := range l {
		ahead, behind, ok := strings.Cut(s, "^")
		if !ok {
			t.Fatalf("%q tells no place", s)
		}
		checkErr(t, ahead+behind, len(ahead), api.ErrForm)
	}
}

// good holds texts against one script, which all of them are.
func good(t *testing.T, want made, l ...string) {
	t.Helper()
	for _, s := range l {
		check(t, s, want)
	}
}

// a to e are commands of one word.
var a, b, c, d, e = cmd("a"), cmd("b"), cmd("c"), cmd("d"), cmd("e")

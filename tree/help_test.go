package tree_test

import (
	"fmt"
	"reflect"
	"strings"

	"lazarus/api"
)

// lit, quoted, param, arith are parts; in is one that stood within quotes.
func lit(s string) api.Part    { return api.Part{Kind: api.Lit, Text: s} }
func quoted(s string) api.Part { return in(lit(s)) }
func arith(s string) api.Part  { return api.Part{Kind: api.Arith, Text: s} }

func param(whose, op string, l ...api.Part) api.Part {
	return api.Part{Kind: api.Var, Text: whose, Op: op, Word: l}
}

func in(p api.Part) api.Part {
	p.Quoted = true
	return p
}

// flipped is a part that is Quoted, if it was not.
func flipped(p api.Part) api.Part {
	p.Quoted = !p.Quoted
	return p
}

// word is a word of these parts.
func word(l ...api.Part) api.Word { return api.Word{Parts: l} }

// words are words of one Lit each, which is not Quoted.
func words(s string) []api.Word {
	var l []api.Word
	for _, x := range strings.Fields(s) {
		l = append(l, word(lit(x)))
	}
	return l
}

// deep is parts within the Words of n Vars.
func deep(n int, l ...api.Part) []api.Part {
	for range n {
		l = []api.Part{param("a", ":-", l...)}
	}
	return l
}

// prog is a script of these nodes.
func prog(l ...api.Node) api.Prog { return api.Prog{Nodes: l} }

// node is one that has kids alone, cmd one that has words alone.
func node(op string, kids ...int) api.Node { return api.Node{Op: op, Kids: kids} }
func cmd(s string) api.Node                { return api.Node{Op: "cmd", Words: words(s)} }

// loop is a for, choice a case, fun a function.
func loop(name string, kid int, s string) api.Node {
	return api.Node{Op: "for", Name: name, Kids: []int{kid}, Words: words(s)}
}

func choice(w api.Word, kids []int, pats ...[]api.Word) api.Node {
	return api.Node{Op: "case", Words: []api.Word{w}, Kids: kids, Pats: pats}
}

func fun(name string, kid int) api.Node {
	return api.Node{Op: "fun", Name: name, Kids: []int{kid}}
}

// giving is a node with one more assign, going one with one more redir.
func giving(n api.Node, name string, to api.Word) api.Node {
	n.Assigns = append(n.Assigns[:len(n.Assigns):len(n.Assigns)], api.Assign{Name: name, To: to})
	return n
}

func going(n api.Node, op string, to api.Word) api.Node {
	n.Redirs = append(n.Redirs[:len(n.Redirs):len(n.Redirs)], api.Redir{Op: op, To: to})
	return n
}

// clone is a copy that shares no memory; empty lists stay empty, and nil ones nil.
func clone[T any](x T) T {
	return copied(reflect.ValueOf(x)).Interface().(T)
}

func copied(v reflect.Value) reflect.Value {
	to := reflect.New(v.Type()).Elem()
	switch v.Kind() {
	case reflect.Struct:
		for i := range v.NumField() {
			to.Field(i).Set(copied(v.Field(i)))
		}
	case reflect.Slice:
		if v.IsNil() {
			return to
		}
		to = reflect.MakeSlice(v.Type(), v.Len(), v.Cap())
		// The spare room is copied too, so that a change in it is seen.
		for i := range v.Cap() {
			to.Slice(0, v.Cap()).Index(i).Set(copied(v.Slice(0, v.Cap()).Index(i)))
		}
	default:
		to.Set(v)
	}
	return to
}

// places are all places within what x points to that can be changed, each around those within it.
func places(x any) []reflect.Value {
	var l []reflect.Value
	var walk func(v reflect.Value)
	walk = func(v reflect.Value) {
		switch v.Kind() {
		case reflect.Struct:
			for i := range v.NumField() {
				walk(v.Field(i))
			}
			return
		case reflect.Slice:
			for i := range v.Len() {
				walk(v.Index(i))
			}
		}
		l = append(l, v)
	}
	walk(reflect.ValueOf(x).Elem())
	return l
}

// alike holds two values against each other; a nil list and an empty one are the same.
func alike[T any](a, b T) bool { return alikeValues(reflect.ValueOf(a), reflect.ValueOf(b)) }

func alikeValues(a, b reflect.Value) bool {
	n, at := 0, reflect.Value.Field
	switch a.Kind() {
	case reflect.Struct:
		n = a.NumField()
	case reflect.Slice:
		if a.Len() != b.Len() {
			return false
		}
		n, at = a.Len(), reflect.Value.Index
	default:
		return a.Equal(b)
	}
	for i := range n {
		if !alikeValues(at(a, i), at(b, i)) {
			return false
		}
	}
	return true
}

// noNil is a copy in which no list is nil.
func noNil(x any) any {
	v := reflect.New(reflect.TypeOf(x))
	v.Elem().Set(copied(reflect.ValueOf(x)))
	for _, p := range places(v.Interface()) {
		if p.Kind() == reflect.Slice && p.IsNil() {
			p.Set(reflect.MakeSlice(p.Type(), 0, 0))
		}
	}
	return v.Elem().Interface()
}

// short is a value in few enough letters to be read.
func short(x any) string { return fmt.Sprintf("%.900s", longText(x)) }

// longText is all of a value as a text.
func longText(x any) string { return fmt.Sprintf("%+v", x) }

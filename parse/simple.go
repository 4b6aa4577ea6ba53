package parse

import (
	"strings"

	"lazarus/api"
	"lazarus/glyph"
	"lazarus/tree"
)

// simple takes a simple command.
func (x *reader) simple() node {
	if !x.isWord() && !x.isRedir() {
		x.fail(api.ErrForm)
	}
	n := api.Node{Op: "cmd"}
	for {
		switch {
		case x.isRedir():
			n.Redirs = append(n.Redirs, x.redir())
		case x.isWord():
			x.part(&n)
		default:
			return node{Node: n}
		}
	}
}

// part takes a word of a simple command, as an assign where it is one.
func (x *reader) part(n *api.Node) {
	if len(n.Words) == 0 {
		if a, ok := assign(x.next().Word); ok {
			n.Assigns = append(n.Assigns, a)
			x.take()
			return
		}
		if len(n.Assigns) == 0 && tree.Reserved(text(x.next())) {
			x.fail(api.ErrForm)
			return
		}
	}
	n.Words = append(n.Words, x.word())
}

// assign is a word as an assign, if it is one.
func assign(w api.Word) (api.Assign, bool) {
	first := w.Parts[0]
	if first.Kind != api.Lit || first.Quoted {
		return api.Assign{}, false
	}
	name, rest, ok := strings.Cut(first.Text, "=")
	if !ok || !glyph.Name(name) {
		return api.Assign{}, false
	}
	var l []api.Part
	if rest != "" {
		l = append(l, api.Part{Kind: api.Lit, Text: rest})
	}
	l = append(l, w.Parts[1:]...)
	if len(l) == 0 {
		l = append(l, api.Part{Kind: api.Lit, Quoted: true})
	}
	return api.Assign{Name: name, To: api.Word{Parts: l}}, true
}

// isRedir tells whether a redir stands next.
func (x *reader) isRedir() bool { return x.is("<") || x.is(">") || x.is(">>") }

// redir takes a redir.
func (x *reader) redir() api.Redir {
	op := x.take().Text
	return api.Redir{Op: op, To: x.word()}
}

package lex

import (
	"strings"

	"lazarus/api"
	"lazarus/glyph"
)

// row is a word's parts that were taken so far.
type row struct{ parts []api.Part }

// lit puts a Lit behind; beside one that is Quoted like it, both are one.
func (w *row) lit(text string, quoted bool) {
	if n := len(w.parts); n > 0 && w.parts[n-1].Kind == api.Lit && w.parts[n-1].Quoted == quoted {
		w.parts[n-1].Text += text
		return
	}
	w.parts = append(w.parts, api.Part{Kind: api.Lit, Text: text, Quoted: quoted})
}

// parts takes all parts up to what ends them, within so many braces.
func (x *reader) parts(depth int) ([]api.Part, api.Errno) {
	var w row
	for x.next() != end && !ends(x.next(), depth) {
		if e := x.part(&w, depth); e != api.OK {
			return nil, e
		}
	}
	return w.parts, api.OK
}

// part takes what stands next outside of quotes.
func (x *reader) part(w *row, depth int) api.Errno {
	switch x.next() {
	case '\\':
		return x.escaped(w)
	case '\'':
		return x.single(w)
	case '"':
		return x.double(w, depth)
	case '$':
		return x.dollar(w, depth, false)
	}
	w.lit(x.till(func(r rune) bool { return begins(r) || ends(r, depth) }), false)
	return api.OK
}

// escaped takes a backslash and a letter.
func (x *reader) escaped(w *row) api.Errno {
	x.take()
	if x.next() == end {
		return api.ErrForm
	}
	w.lit(string(x.take()), true)
	return api.OK
}

// single takes single quotes and what is within.
func (x *reader) single(w *row) api.Errno {
	x.take()
	w.lit(x.till(func(r rune) bool { return r == '\'' }), true)
	if !x.takes("'") {
		return api.ErrForm
	}
	return api.OK
}

// double takes double quotes and what is within.
func (x *reader) double(w *row, depth int) api.Errno {
	x.take()
	// Without this a word of such quotes alone would have no part.
	if x.next() == '"' {
		w.lit("", true)
	}
	for !x.takes(`"`) {
		if e := x.within(w, depth); e != api.OK {
			return e
		}
	}
	return api.OK
}

// within takes what stands next within double quotes.
func (x *reader) within(w *row, depth int) api.Errno {
	switch x.next() {
	case end:
		return api.ErrForm
	case '\\':
		return x.escapedWithin(w)
	case '$':
		return x.dollar(w, depth, true)
	}
	w.lit(x.till(acts), true)
	return api.OK
}

// escapedWithin takes a backslash and a letter within double quotes.
func (x *reader) escapedWithin(w *row) api.Errno {
	x.take()
	if x.next() == end {
		return api.ErrForm
	}
	if !acts(x.next()) {
		w.lit(`\`, true)
	}
	w.lit(string(x.take()), true)
	return api.OK
}

// dollar takes a dollar and what goes with it.
func (x *reader) dollar(w *row, depth int, quoted bool) api.Errno {
	x.take()
	var p api.Part
	var e api.Errno
	switch {
	case x.takes("{"):
		p, e = x.braces(depth)
	case x.takes("(("):
		p, e = x.arith()
	case glyph.First(x.next()) || isOther(x.next()):
		p, e = x.parameter()
	default:
		w.lit("$", true)
		return api.OK
	}
	if e != api.OK {
		return e
	}
	p.Quoted = quoted
	w.parts = append(w.parts, p)
	return api.OK
}

// parameter takes a name, or one of the other parameters, as a Var.
func (x *reader) parameter() (api.Part, api.Errno) {
	if isOther(x.next()) {
		return api.Part{Kind: api.Var, Text: string(x.take())}, api.OK
	}
	name := x.till(func(r rune) bool { return !glyph.More(r) })
	if !glyph.Name(name) {
		return api.Part{}, api.ErrForm
	}
	return api.Part{Kind: api.Var, Text: name}, api.OK
}

// braces takes what stands behind an opening brace that is within so many others, and the closing one.
func (x *reader) braces(depth int) (api.Part, api.Errno) {
	// Asked ahead of all that is within, because that stands further to the right.
	if depth >= api.MaxDepth {
		return api.Part{}, api.ErrLimit
	}
	p, e := x.parameter()
	if e == api.OK && x.next() != '}' {
		p, e = x.operation(p, depth)
	}
	if e == api.OK && !x.takes("}") {
		e = api.ErrForm
	}
	if e != api.OK {
		return api.Part{}, e
	}
	return p, api.OK
}

// operation takes what stands in braces behind their parameter.
func (x *reader) operation(p api.Part, depth int) (api.Part, api.Errno) {
	var e api.Errno
	// Ahead of a name this is no parameter, but asks how many letters that one's value has.
	if p.Text == "#" && glyph.First(x.next()) {
		p, e = x.parameter()
		p.Op = "#"
		return p, e
	}
	p.Op = x.op(p.Text)
	if p.Op == "" {
		return p, api.ErrForm
	}
	p.Word, e = x.parts(depth + 1)
	return p, e
}

// op takes an Op of a parameter that has a Word; it is empty, if there is none.
func (x *reader) op(whose string) string {
	switch {
	case x.takes(":-"):
		return ":-"
	case x.takes(":+"):
		return ":+"
	case glyph.Name(whose) && x.takes(":="):
		return ":="
	}
	return ""
}

// arith takes what stands behind two opening parentheses, and the two that close them.
func (x *reader) arith() (api.Part, api.Errno) {
	var b strings.Builder
	open := 0
	for open > 0 || !x.takes("))") {
		r := x.next()
		switch {
		case r == '(':
			open++
		case r == ')':
			open--
		}
		if open < 0 || !reckons(r) {
			return api.Part{}, api.ErrForm
		}
		b.WriteRune(x.take())
	}
	return api.Part{Kind: api.Arith, Text: b.String()}, api.OK
}

// begins tells whether a part begins with that letter which is no mere letter.
func begins(r rune) bool { return r == '\'' || acts(r) }

// acts tells whether a letter is no mere letter within double quotes, either.
func acts(r rune) bool { return strings.ContainsRune("\"$\\", r) }

// ends tells whether a letter ends parts that stand within so many braces.
func ends(r rune, depth int) bool {
	if depth > 0 {
		return r == '}'
	}
	return glyph.Blank(r) || strings.ContainsRune(";&|()<>", r)
}

// isOther tells whether a letter is a parameter that has no name.
func isOther(r rune) bool { return strings.ContainsRune("123456789@#?", r) }

// reckons tells whether a letter may stand in an Arith.
func reckons(r rune) bool { return glyph.More(r) || strings.ContainsRune(" \t+-*/%()<>=!", r) }

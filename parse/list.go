package parse

import "lazarus/api"

// What follows takes what the grammar has under each of these names; depth is within how many commands it stands.

// script takes a script.
func (x *reader) script() node {
	n := x.list(0)
	if x.next().Kind != api.TEnd {
		x.fail(api.ErrForm)
	}
	return n
}

// list takes a list.
func (x *reader) list(depth int) node {
	x.lines()
	l := []node{x.andor(depth)}
	for x.sep() && !x.ends() {
		l = append(l, x.andor(depth))
	}
	return several("seq", l)
}

// lines takes line feeds.
func (x *reader) lines() {
	for x.takes("\n") {
	}
}

// sep takes what stands behind each part of a list, if it is there.
func (x *reader) sep() bool {
	if !x.takes(";") && !x.takes("\n") {
		return false
	}
	x.lines()
	return true
}

// ends tells whether behind a sep a list has no other part.
func (x *reader) ends() bool {
	switch text(x.next()) {
	case ")", ";;", "}", "then", "elif", "else", "fi", "do", "done":
		return true
	}
	return x.next().Kind == api.TEnd
}

// andor takes an andor.
func (x *reader) andor(depth int) node {
	n := x.pipe(depth)
	for {
		op := ""
		switch text(x.next()) {
		case "&&":
			op = "and"
		case "||":
			op = "or"
		default:
			return n
		}
		x.take()
		x.lines()
		n = of(op, n, x.pipe(depth))
	}
}

// pipe takes a pipe.
func (x *reader) pipe(depth int) node {
	not := x.takes("!")
	l := []node{x.command(depth)}
	for x.takes("|") {
		x.lines()
		l = append(l, x.command(depth))
	}
	n := several("pipe", l)
	if not {
		return of("not", n)
	}
	return n
}

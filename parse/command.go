package parse

import (
	"lazarus/api"
	"lazarus/tree"
)

// command takes a command.
func (x *reader) command(depth int) node {
	x.begin(depth)
	if x.isFun() {
		return x.fun(depth)
	}
	n, ok := x.compound(depth)
	if !ok {
		return x.simple()
	}
	for x.isRedir() {
		n.Redirs = append(n.Redirs, x.redir())
	}
	return n
}

// begin is where a command is to begin; within too many others that is an error, whatever stands there.
func (x *reader) begin(depth int) {
	if depth >= api.MaxDepth {
		x.fail(api.ErrLimit)
	}
}

// compound takes a command but its redirs, if one stands next that is neither a fun nor simple.
func (x *reader) compound(depth int) (node, bool) {
	switch op := text(x.next()); op {
	case "{":
		return x.enclosed("group", "}", depth), true
	case "(":
		return x.enclosed("sub", ")", depth), true
	case "if":
		return x.branch(depth), true
	case "while", "until":
		return x.loop(op, depth), true
	case "for":
		return x.each(depth), true
	case "case":
		return x.choice(depth), true
	}
	return node{}, false
}

// enclosed takes a list between what opens and what closes it.
func (x *reader) enclosed(op, closing string, depth int) node {
	x.take()
	n := of(op, x.list(depth+1))
	x.need(closing)
	return n
}

// branch takes an if, or an elif as one, which has the fi together with the one that it is in.
func (x *reader) branch(depth int) node {
	x.take()
	l := []node{x.list(depth + 1)}
	x.need("then")
	l = append(l, x.list(depth+1))
	if x.is("elif") {
		return of("if", append(l, x.branch(depth+1))...)
	}
	if x.takes("else") {
		l = append(l, x.list(depth+1))
	}
	x.need("fi")
	return of("if", l...)
}

// loop takes a while or until.
func (x *reader) loop(op string, depth int) node {
	x.take()
	test := x.list(depth + 1)
	return of(op, test, x.body(depth))
}

// body takes what a loop goes through, and what stands around that.
func (x *reader) body(depth int) node {
	x.need("do")
	n := x.list(depth + 1)
	x.need("done")
	return n
}

// each takes a for.
func (x *reader) each(depth int) node {
	x.take()
	n := api.Node{Op: "for", Name: x.name()}
	x.need("in")
	for x.isWord() {
		n.Words = append(n.Words, x.word())
	}
	// Where none stands no do does, either: it would have been one of the words.
	x.sep()
	return node{n, []node{x.body(depth)}}
}

// choice takes a case.
func (x *reader) choice(depth int) node {
	x.take()
	n := node{Node: api.Node{Op: "case", Words: []api.Word{x.word()}}}
	x.need("in")
	x.lines()
	for !x.is("esac") && x.next().Kind != api.TEnd {
		n.Pats = append(n.Pats, x.pats())
		n.kids = append(n.kids, x.list(depth+1))
		x.need(";;")
		x.lines()
	}
	x.need("esac")
	return n
}

// pats takes the words of a kid of a case.
func (x *reader) pats() []api.Word {
	x.takes("(")
	l := []api.Word{x.word()}
	for x.takes("|") {
		l = append(l, x.word())
	}
	x.need(")")
	return l
}

// isFun tells whether a fun stands next; nothing else has a parenthesis behind a word.
func (x *reader) isFun() bool {
	return x.isName() && !tree.Reserved(text(x.next())) && text(x.left[1]) == "("
}

// fun takes a fun.
func (x *reader) fun(depth int) node {
	n := api.Node{Op: "fun", Name: x.name()}
	x.need("(")
	x.need(")")
	x.lines()
	return node{n, []node{x.held(depth + 1)}}
}

// held takes what a fun stands for: a list in braces or parentheses.
func (x *reader) held(depth int) node {
	x.begin(depth)
	if !x.is("{") && !x.is("(") {
		x.fail(api.ErrForm)
	}
	n, _ := x.compound(depth)
	return n
}

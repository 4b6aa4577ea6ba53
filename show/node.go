package show

import "lazarus/api"

// frame is what stands around a node's kids: ahead of the first one, of the second, of each other, and behind the last.
type frame struct{ op, first, second, other, last string }

// frames are those of all Ops that have kids, but case, which has something of its own ahead of each kid.
var frames = [...]frame{
	{op: "seq", second: "; ", other: "; "},
	{op: "and", second: " && "},
	{op: "or", second: " || "},
	{op: "not", first: "! "},
	{op: "pipe", second: " | ", other: " | "},
	{op: "if", first: "if ", second: "; then ", other: "; else ", last: "; fi"},
	{op: "while", first: "while ", second: "; do ", last: "; done"},
	{op: "until", first: "until ", second: "; do ", last: "; done"},
	{op: "for", first: "; do ", last: "; done"},
	{op: "fun", first: "() "},
	{op: "group", first: "{ ", last: "; }"},
	{op: "sub", first: "( ", last: " )"},
}

// node writes a node, and all below it.
func (x *writer) node(at int) {
	n := x.nodes[at]
	switch n.Op {
	case "cmd":
		x.command(n)
		// Its redirs have no blank ahead where nothing else stands.
		return
	case "case":
		x.choice(n)
	case "for":
		x.put("for ", n.Name, " in ")
		x.words(n.Words, " ")
	case "fun":
		x.put(n.Name)
	}
	for _, f := range frames {
		if f.op == n.Op {
			x.kids(n, f)
		}
	}
	for _, r := range n.Redirs {
		x.put(" ")
		x.redir(r)
	}
}

// kids writes a node's kids, and what stands around them.
func (x *writer) kids(n api.Node, f frame) {
	ahead := [...]string{f.first, f.second, f.other}
	for i, kid := range n.Kids {
		x.put(ahead[min(i, 2)])
		x.node(kid)
	}
	x.put(f.last)
}

// command writes a cmd.
func (x *writer) command(n api.Node) {
	blank := ""
	for _, a := range n.Assigns {
		x.put(blank, a.Name, "=")
		x.parts(a.To.Parts)
		blank = " "
	}
	for _, w := range n.Words {
		x.put(blank)
		x.parts(w.Parts)
		blank = " "
	}
	for _, r := range n.Redirs {
		x.put(blank)
		x.redir(r)
		blank = " "
	}
}

// choice writes a case.
func (x *writer) choice(n api.Node) {
	x.put("case ")
	x.parts(n.Words[0].Parts)
	x.put(" in ")
	for i, kid := range n.Kids {
		x.put("(")
		x.words(n.Pats[i], " | ")
		x.put(") ")
		x.node(kid)
		x.put(";; ")
	}
	x.put("esac")
}

// words writes words, and between each two of them what parts them.
func (x *writer) words(l []api.Word, between string) {
	for i, w := range l {
		if i > 0 {
			x.put(between)
		}
		x.parts(w.Parts)
	}
}

// redir writes a redir.
func (x *writer) redir(r api.Redir) {
	x.put(r.Op, " ")
	x.parts(r.To.Parts)
}

package tree

import (
	"math"
	"strings"

	"lazarus/api"
	"lazarus/glyph"
)

// many is as many as there are.
const many = math.MaxInt

// count is how many there may be.
type count struct{ least, most int }

// has tells whether there may be n.
func (c count) has(n int) bool { return c.least <= n && n <= c.most }

// shape is what nodes of an Op have; where it says nothing, they have nothing.
type shape struct {
	op      string
	kids    count
	words   count
	name    bool
	pats    bool
	assigns bool
	redirs  bool
}

// shapes are those of all Ops.
var shapes = [...]shape{
	{op: "cmd", words: count{0, many}, assigns: true, redirs: true},
	{op: "seq", kids: count{2, many}},
	{op: "and", kids: count{2, 2}},
	{op: "or", kids: count{2, 2}},
	{op: "not", kids: count{1, 1}},
	{op: "pipe", kids: count{2, many}},
	{op: "if", kids: count{2, 3}, redirs: true},
	{op: "while", kids: count{2, 2}, redirs: true},
	{op: "until", kids: count{2, 2}, redirs: true},
	{op: "for", kids: count{1, 1}, words: count{0, many}, name: true, redirs: true},
	{op: "case", kids: count{0, many}, words: count{1, 1}, pats: true, redirs: true},
	{op: "fun", kids: count{1, 1}, name: true},
	{op: "group", kids: count{1, 1}, redirs: true},
	{op: "sub", kids: count{1, 1}, redirs: true},
}

// fits tells whether a node has what its Op has, and as many of it.
func fits(n api.Node) bool {
	for _, s := range shapes {
		if s.op == n.Op {
			return s.fits(n)
		}
	}
	return false
}

// fits tells whether a node has that shape.
func (s shape) fits(n api.Node) bool {
	pats := 0
	if s.pats {
		pats = len(n.Kids)
	}
	return s.kids.has(len(n.Kids)) &&
		s.words.has(len(n.Words)) &&
		s.name == (n.Name != "") &&
		len(n.Pats) == pats &&
		(s.assigns || len(n.Assigns) == 0) &&
		(s.redirs || len(n.Redirs) == 0)
}

// spells tells whether all names, words and signs of a node are such as may stand there.
func spells(n api.Node) bool {
	switch n.Op {
	case "cmd":
		if !command(n) {
			return false
		}
	case "fun":
		if Reserved(n.Name) {
			return false
		}
	}
	return (n.Name == "" || glyph.Name(n.Name)) && all(n.Words, bare) &&
		all(n.Pats, pattern) && all(n.Assigns, assign) && all(n.Redirs, redir)
}

// all tells whether all of a list are so.
func all[T any](l []T, so func(T) bool) bool {
	for _, x := range l {
		if !so(x) {
			return false
		}
	}
	return true
}

// bare tells whether it is a word that is no remark where a token would begin.
func bare(w api.Word) bool { return Word(w) && !strings.HasPrefix(opening(w), "#") }

// pattern tells whether these are the words of a kid of a case.
func pattern(l []api.Word) bool { return len(l) > 0 && all(l, bare) }

// assign tells whether a name is given a word.
func assign(a api.Assign) bool { return glyph.Name(a.Name) && Word(a.To) }

// redir tells whether it has a sign and a word.
func redir(r api.Redir) bool {
	return (r.Op == "<" || r.Op == ">" || r.Op == ">>") && bare(r.To)
}

// command tells whether a cmd has something, and does not begin as something else would.
func command(n api.Node) bool {
	if len(n.Words) == 0 {
		return len(n.Assigns) > 0 || len(n.Redirs) > 0
	}
	text, plain := Plain(n.Words[0])
	return !gives(n.Words[0]) && (len(n.Assigns) > 0 || !plain || !Reserved(text))
}

// gives tells whether a word ahead of all others would be had as an assign.
func gives(w api.Word) bool {
	name, _, ok := strings.Cut(opening(w), "=")
	return ok && glyph.Name(name)
}

// opening is the Lit, not Quoted, that a word begins with; empty, if it begins otherwise.
func opening(w api.Word) string {
	if len(w.Parts) == 0 || !isBare(w.Parts[0]) {
		return ""
	}
	return w.Parts[0].Text
}

// Reserved tells whether a text is reserved.
func Reserved(s string) bool {
	switch s {
	case "if", "then", "elif", "else", "fi", "while", "until", "do", "done", "for", "in", "case", "esac", "{", "}", "!":
		return true
	}
	return false
}

package tree

import (
	"strings"

	"lazarus/api"
	"lazarus/glyph"
)

// meta are the letters that a Lit which is not Quoted may not have; within a Word of a Var they are others.
const (
	meta       = " \t\n;&|()<>'\"$\\"
	metaWithin = "'\"$\\}"
)

// Word tells whether a word is one.
func Word(w api.Word) bool { return len(w.Parts) > 0 && row(w.Parts, 0) }

// Plain is a plain word's text.
func Plain(w api.Word) (string, bool) {
	if len(w.Parts) != 1 || !isBare(w.Parts[0]) {
		return "", false
	}
	return w.Parts[0].Text, true
}

// isBare tells whether a part is a Lit that is not Quoted.
func isBare(p api.Part) bool { return p.Kind == api.Lit && !p.Quoted }

// row tells whether these are parts that may stand side by side, in a Word within so many.
func row(l []api.Part, depth int) bool {
	if depth > api.MaxDepth {
		return false
	}
	for i, p := range l {
		if !part(p, depth) || i > 0 && isOne(l[i-1], p) {
			return false
		}
	}
	return true
}

// isOne tells whether two parts side by side would be had as one.
func isOne(a, b api.Part) bool {
	return a.Kind == api.Lit && b.Kind == api.Lit && a.Quoted == b.Quoted
}

// part tells whether it is one, in a Word within so many.
func part(p api.Part, depth int) bool {
	switch p.Kind {
	case api.Lit:
		return p.Op == "" && len(p.Word) == 0 && letters(p, depth)
	case api.Var:
		return variable(p, depth)
	case api.Arith:
		return p.Op == "" && len(p.Word) == 0 && reckoning(p.Text)
	}
	return false
}

// letters tells whether a Lit has a text that it may have.
func letters(p api.Part, depth int) bool {
	if _, ok := glyph.Valid(p.Text); !ok {
		return false
	}
	if p.Quoted {
		return true
	}
	if depth > 0 {
		return p.Text != "" && !strings.ContainsAny(p.Text, metaWithin)
	}
	return p.Text != "" && !strings.ContainsAny(p.Text, meta)
}

// variable tells whether a Var has a Text, an Op and a Word that go together.
func variable(p api.Part, depth int) bool {
	named := glyph.Name(p.Text)
	if !named && !isOther(p.Text) {
		return false
	}
	switch p.Op {
	case "":
		return len(p.Word) == 0
	case "#":
		return named && len(p.Word) == 0
	case ":=":
		return named && row(p.Word, depth+1)
	case ":-", ":+":
		return row(p.Word, depth+1)
	}
	return false
}

// isOther tells whether a text is that of a parameter that has no name.
func isOther(s string) bool { return len(s) == 1 && strings.Contains("123456789@#?", s) }

// reckoning tells whether a text has only letters of a reckoning, and parentheses that stand so.
func reckoning(s string) bool {
	open := 0
	for _, r := range s {
		switch {
		case r == '(':
			open++
		case r == ')':
			open--
		}
		if open < 0 || !glyph.More(r) && !strings.ContainsRune(" \t+-*/%()<>=!", r) {
			return false
		}
	}
	return open == 0
}

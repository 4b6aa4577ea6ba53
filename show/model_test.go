package show_test

import (
	"fmt"
	"regexp"
	"strings"

	"lazarus/api"
)

// The model puts a node's pieces, as whole texts, in place of the letters of the chapter's own lines.
// forms are these lines, by Op and, where that hangs on it, how many kids; what has pieces without a bound has none.
var forms = map[string]string{
	"and 2":   "a && b",
	"or 2":    "a || b",
	"not 1":   "! a",
	"if 2":    "if a; then b; fi",
	"if 3":    "if a; then b; else c; fi",
	"while 2": "while a; do b; done",
	"until 2": "until a; do b; done",
	"for 1":   "for x in w; do a; done",
	"fun 1":   "x() a",
	"group 1": "{ a; }",
	"sub 1":   "( a )",
}

// letter is a letter that stands for a piece.
var letter = regexp.MustCompile(`\b[abcwx]\b`)

// modelText is a script's text.
func modelText(m made) string {
	var kids, words, redirs []string
	for _, kid := range m.kids {
		kids = append(kids, modelText(kid))
	}
	for _, w := range m.Words {
		words = append(words, modelWord(w.Parts))
	}
	for _, r := range m.Redirs {
		redirs = append(redirs, r.Op+" "+modelWord(r.To.Parts))
	}
	s := ""
	switch m.Op {
	case "cmd":
		var l []string
		for _, g := range m.Assigns {
			l = append(l, g.Name+"="+modelWord(g.To.Parts))
		}
		return strings.Join(append(append(l, words...), redirs...), " ")
	case "seq":
		s = strings.Join(kids, "; ")
	case "pipe":
		s = strings.Join(kids, " | ")
	case "case":
		s = "case " + words[0] + " in " + modelKids(m, kids) + "esac"
	default:
		s = letter.ReplaceAllStringFunc(forms[fmt.Sprint(m.Op, " ", len(kids))], func(x string) string {
			switch x {
			case "w":
				return strings.Join(words, " ")
			case "x":
				return m.Name
			}
			return kids[x[0]-'a']
		})
	}
	return strings.Join(append([]string{s}, redirs...), " ")
}

// modelKids is the kids of a case, each with its Pats.
func modelKids(m made, kids []string) string {
	s := ""
	for i, kid := range kids {
		var l []string
		for _, w := range m.Pats[i] {
			l = append(l, modelWord(w.Parts))
		}
		s += fmt.Sprintf("(%s) %s;; ", strings.Join(l, " | "), kid)
	}
	return s
}

// acting is what is no mere letter within double quotes.
var acting = regexp.MustCompile(`["$\\]`)

// modelWord is the text of parts.
func modelWord(l []api.Part) string {
	var b strings.Builder
	for _, p := range l {
		form := "%s"
		if p.Quoted {
			form = `"%s"`
		}
		inner := p.Text
		switch {
		case p.Kind == api.Lit && p.Quoted:
			inner = acting.ReplaceAllString(p.Text, `\$0`)
		case p.Kind == api.Var && p.Op == "#":
			inner = "${#" + p.Text + "}"
		case p.Kind == api.Var:
			inner = "${" + p.Text + p.Op + modelWord(p.Word) + "}"
		case p.Kind == api.Arith:
			inner = "$((" + p.Text + "))"
		}
		fmt.Fprintf(&b, form, inner)
	}
	return b.String()
}

// modelDepth is within how many others the deepest command begins, or the deepest brace of a word opens, if that is more.
func modelDepth(m made) int { return max(modelCommands(m), modelBraces(m)) }

// modelCommands is within how many commands of it the deepest command begins.
func modelCommands(m made) int {
	n, own := 0, 1
	if strings.Contains(" seq and or not pipe ", " "+m.Op+" ") {
		own = 0
	}
	for _, kid := range m.kids {
		n = max(n, own+modelCommands(kid))
	}
	return n
}

// modelBraces is within how many braces the deepest brace of any word of it opens.
func modelBraces(m made) int {
	l := append([]api.Word(nil), m.Words...)
	for _, pats := range m.Pats {
		l = append(l, pats...)
	}
	for _, g := range m.Assigns {
		l = append(l, g.To)
	}
	for _, r := range m.Redirs {
		l = append(l, r.To)
	}
	n := 0
	for _, w := range l {
		n = max(n, modelPartsDepth(w.Parts))
	}
	for _, kid := range m.kids {
		n = max(n, modelBraces(kid))
	}
	return n
}

// modelPartsDepth is within how many braces the deepest brace of parts opens.
func modelPartsDepth(l []api.Part) int {
	n := 0
	for _, p := range l {
		for _, q := range p.Word {
			if q.Kind == api.Var {
				n = max(n, modelPartsDepth(p.Word)+1)
			}
		}
	}
	return n
}

package tree_test

import (
	"regexp"
	"slices"
	"strings"

	"lazarus/api"
	"lazarus/lex"
)

// written is parts as a text that has them, if there is one.
func written(l []api.Part) string {
	var b strings.Builder
	for _, p := range l {
		b.WriteString(writtenPart(p))
	}
	return b.String()
}

func writtenPart(p api.Part) string {
	s := ""
	switch p.Kind {
	case api.Lit:
		if !p.Quoted {
			return p.Text
		}
		s = strings.NewReplacer(`\`, `\\`, `"`, `\"`, `$`, `\$`).Replace(p.Text)
	case api.Var:
		s = "${" + p.Text + p.Op + written(p.Word) + "}"
		if p.Op == "#" {
			s = "${#" + p.Text + written(p.Word) + "}"
		}
	case api.Arith:
		s = "$((" + p.Text + "))"
	}
	if p.Quoted {
		return `"` + s + `"`
	}
	return s
}

// modelWord tells whether a word is one: whether the lexer makes just it of what it is written as.
func modelWord(w api.Word) bool {
	// Behind a parameter a word begins no remark.
	s := "$?" + written(w.Parts)
	l, _, e := lex.Tokens(s)
	if e != api.OK || len(w.Parts) == 0 || len(l) != 2 {
		return false
	}
	return alike(l[0].Word.Parts, append([]api.Part{param("?", "")}, w.Parts...))
}

// reservedWords are all of them.
var reservedWords = strings.Fields("if then elif else fi while until do done for in case esac { } !")

var (
	aName   = regexp.MustCompile(`^[A-Za-z_][A-Za-z0-9_]{0,11}$`)
	aGiving = regexp.MustCompile(`^[A-Za-z_][A-Za-z0-9_]{0,11}=`)
)

// wordLetter is a letter for a word: x none, # a remark, = an assign, r reserved, w any other.
func wordLetter(w api.Word) string {
	s := written(w.Parts)
	switch {
	case !modelWord(w):
		return "x"
	case strings.HasPrefix(s, "#"):
		return "#"
	case aGiving.MatchString(s):
		return "="
	case slices.Contains(reservedWords, s):
		return "r"
	}
	return "w"
}

// nameLetter is a letter for a name: x none, r reserved, n any other; nothing, if it is empty.
func nameLetter(s string) string {
	switch {
	case s == "":
		return ""
	case !aName.MatchString(s):
		return "x"
	case slices.Contains(reservedWords, s):
		return "r"
	}
	return "n"
}

// kidLetter is a letter for a kid: s, a, n, p as its Op, b may be a function's body, c any other.
func kidLetter(n api.Node) string {
	switch n.Op {
	case "seq", "not", "pipe":
		return n.Op[:1]
	case "and", "or":
		return "a"
	case "group", "sub":
		if len(n.Redirs) == 0 {
			return "b"
		}
	}
	return "c"
}

func wordLetters(l []api.Word) string {
	var b strings.Builder
	for _, w := range l {
		b.WriteString(wordLetter(w))
	}
	return b.String()
}

// line is all of a node, as a line of letters.
func line(p api.Prog, n api.Node) string {
	var b strings.Builder
	b.WriteString(n.Op + " name:" + nameLetter(n.Name) + " kids:")
	for _, k := range n.Kids {
		b.WriteString(kidLetter(p.Nodes[k]))
	}
	b.WriteString(" words:" + wordLetters(n.Words) + " pats:")
	for _, l := range n.Pats {
		b.WriteString("(" + wordLetters(l) + ")")
	}
	b.WriteString(" gives:")
	for _, a := range n.Assigns {
		b.WriteString(nameLetter(a.Name) + wordLetter(a.To))
	}
	b.WriteString(" goes:")
	for _, r := range n.Redirs {
		b.WriteString(r.Op + wordLetter(r.To))
	}
	return b.String()
}

// lines are what such lines may be.
var lines = regexp.MustCompile("^(" + strings.Join([]string{
	`cmd name: kids: words:[wr][wr=]* pats: gives:([nr][wr=#])+ goes:((<|>|>>)[wr=])*`,
	`cmd name: kids: words: pats: gives:([nr][wr=#])+ goes:((<|>|>>)[wr=])*`,
	`cmd name: kids: words:w[wr=]* pats: gives: goes:((<|>|>>)[wr=])*`,
	`cmd name: kids: words: pats: gives: goes:((<|>|>>)[wr=])+`,
	`seq name: kids:[anpbc]{2,} words: pats: gives: goes:`,
	`(and|or) name: kids:[anpbc][npbc] words: pats: gives: goes:`,
	`not name: kids:[pbc] words: pats: gives: goes:`,
	`pipe name: kids:[bc]{2,} words: pats: gives: goes:`,
	`if name: kids:[sanpbc]{2,3} words: pats: gives: goes:((<|>|>>)[wr=])*`,
	`(while|until) name: kids:[sanpbc]{2} words: pats: gives: goes:((<|>|>>)[wr=])*`,
	`for name:[nr] kids:[sanpbc] words:[wr=]* pats: gives: goes:((<|>|>>)[wr=])*`,
	`case name: kids:[sanpbc]* words:[wr=] pats:(\([wr=]+\))* gives: goes:((<|>|>>)[wr=])*`,
	`fun name:n kids:b words: pats: gives: goes:`,
	`(group|sub) name: kids:[sanpbc] words: pats: gives: goes:((<|>|>>)[wr=])*`,
}, "|") + ")$")

// modelIs tells whether a script is one: whether its nodes stand in order, and each one's line may be.
func modelIs(p api.Prog) bool {
	if len(p.Nodes) < 1 || len(p.Nodes) > 200 || p.Root != 0 {
		return false
	}
	at, left := 0, []int{0}
	for len(left) > 0 {
		k := left[0]
		if k != at || k >= len(p.Nodes) {
			return false
		}
		left = append(slices.Clone(p.Nodes[k].Kids), left[1:]...)
		at++
	}
	if at != len(p.Nodes) {
		return false
	}
	for _, n := range p.Nodes {
		if !lines.MatchString(line(p, n)) || n.Op == "case" && len(n.Pats) != len(n.Kids) {
			return false
		}
	}
	return true
}

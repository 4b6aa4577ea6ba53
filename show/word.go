package show

import (
	"strings"

	"lazarus/api"
)

// parts writes parts, one after the other.
func (x *writer) parts(l []api.Part) {
	for _, p := range l {
		quote := ""
		if p.Quoted {
			quote = `"`
		}
		x.put(quote)
		x.part(p)
		x.put(quote)
	}
}

// part writes a part without the quotes around it.
func (x *writer) part(p api.Part) {
	switch p.Kind {
	case api.Lit:
		x.letters(p.Text)
	case api.Var:
		x.variable(p)
	case api.Arith:
		x.put("$((", p.Text, "))")
	}
}

// letters writes a Lit's text so that within quotes no letter of it acts; one that is not Quoted has no such letter.
func (x *writer) letters(text string) {
	for _, r := range text {
		if strings.ContainsRune("\"$\\", r) {
			x.put(`\`)
		}
		x.out.WriteRune(r)
	}
}

// variable writes a Var; one Op alone stands ahead of whose it is, and that has no Word.
func (x *writer) variable(p api.Part) {
	if p.Op == "#" {
		x.put("${#", p.Text, "}")
		return
	}
	x.put("${", p.Text, p.Op)
	x.parts(p.Word)
	x.put("}")
}

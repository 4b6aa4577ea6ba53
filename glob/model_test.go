package glob_test

import (
	"fmt"
	"math/rand/v2"
	"regexp"
	"strings"

	"lazarus/api"
)

// The model makes an expression of a pattern, with expressions: it has nothing in common with the package.

// In spelt, a pattern's letters have a q ahead of them where they are Quoted, else a u; a bracket is told there by expressions.
var (
	bracketed = regexp.MustCompile(`(?s)^u\[(?:(u!)(..(?:q.|u[^\]])*)|((?:q.|u[^!])(?:q.|u[^\]])*))u\]`)
	oneItem   = regexp.MustCompile(`(?s).(.)(?:u-.(.))?`)
)

// spelt is a pattern as a text.
func spelt(p []api.Char) string {
	var b strings.Builder
	for _, c := range p {
		if c.Q {
			b.WriteRune('q')
		} else {
			b.WriteRune('u')
		}
		b.WriteRune(c.R)
	}
	return b.String()
}

// group are letters from one to another one, each by itself or as a whole.
type group struct{ from, to rune }

// model is a pattern, and of each of its pieces of what groups it is; nil: of any letter, as often as is told by many.
type model struct {
	is     *regexp.Regexp
	groups [][]group
	many   []bool
}

// modelOf is a pattern's model.
func modelOf(p []api.Char) model {
	var m model
	var expr strings.Builder
	for s := spelt(p); s != ""; {
		of := bracketed.FindStringSubmatch(s)
		c := []rune(s)[:2]
		size := len(string(c))
		switch {
		case string(c) == "u*":
			expr.WriteString(".*")
			m.add(nil, true)
		case string(c) == "u?":
			expr.WriteString(".")
			m.add(nil, false)
		case of != nil:
			items := groups(of[2] + of[3])
			expr.WriteString(class(items, of[1] != ""))
			if of[1] != "" {
				items = nil
			}
			m.add(items, false)
			size = len(of[0])
		default:
			fmt.Fprintf(&expr, `\x{%x}`, c[1])
			m.add([]group{{c[1], c[1]}}, false)
		}
		s = s[size:]
	}
	m.is = regexp.MustCompile(`(?s)\A(?:` + expr.String() + `)\z`)
	return m
}

// add has one more piece.
func (m *model) add(l []group, many bool) {
	m.groups = append(m.groups, l)
	m.many = append(m.many, many)
}

// groups are those that the items of a bracket stand for.
func groups(items string) []group {
	l := []group{}
	for _, of := range oneItem.FindAllStringSubmatch(items, -1) {
		from := []rune(of[1])[0]
		to := from
		if of[2] != "" {
			to = []rune(of[2])[0]
		}
		l = append(l, group{from, to})
	}
	return l
}

// class is an expression of one letter that is in one of the groups, or in none.
func class(l []group, none bool) string {
	s := ""
	for _, g := range l {
		if g.from <= g.to {
			s += fmt.Sprintf(`\x{%x}-\x{%x}`, g.from, g.to)
		}
	}
	switch {
	case none && s == "":
		return "."
	case none:
		return "[^" + s + "]"
	case s == "":
		return `[^\x{0}-\x{10ffff}]`
	}
	return "[" + s + "]"
}

// matches is what Match should answer.
func (m model) matches(s string) bool { return m.is.MatchString(plain(s)) }

// made is a text that the pattern mostly matches, of what letters it leaves open.
func (m model) made(r *rand.Rand, open []rune) string {
	var b strings.Builder
	for i, l := range m.groups {
		often := 1
		if m.many[i] {
			often = r.IntN(4)
		}
		for range often {
			x := open[r.IntN(len(open))]
			if len(l) > 0 {
				g := l[r.IntN(len(l))]
				x = g.from
				if g.from < g.to {
					x += r.Int32N(g.to - g.from + 1)
				}
			}
			b.WriteRune(x)
		}
	}
	return b.String()
}

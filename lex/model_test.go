package lex_test

import (
	"regexp"
	"slices"
	"strings"
	"unicode/utf8"

	"lazarus/api"
)

// The model tells tokens by expressions, byte by byte, and keeps on a stack what stands open: it is slow, and has nothing in common with the package.

const (
	name  = `[A-Za-z_][A-Za-z0-9_]*`
	whose = `(?:` + name + `|[1-9@#?])`
)

var (
	between  = regexp.MustCompile(`^[ \t]*(?:#[^\n]*)?`)
	oneSign  = regexp.MustCompile(`^(?:&&|\|\||;;|>>|[;|()<>\n])`)
	wordEnd  = regexp.MustCompile(`^[ \t\n;&|()<>]`)
	inWord   = regexp.MustCompile("^[^ \t\n;&|()<>'\"$\\\\]+")
	inBraces = regexp.MustCompile("^[^}'\"$\\\\]+")
	inDouble = regexp.MustCompile("^[^\"$\\\\]+")
	inSingle = regexp.MustCompile(`^'([^']*)'`)
	escaped  = regexp.MustCompile(`^\\((?s:.))`)
	acting   = regexp.MustCompile(`^\\(["$\\])`)
	bare     = regexp.MustCompile(`^\$(` + whose + `)`)
	shut     = regexp.MustCompile(`^\$\{(` + whose + `)\}`)
	counted  = regexp.MustCompile(`^\$\{#(` + name + `)\}`)
	opened   = regexp.MustCompile(`^\$\{(` + whose + `)(:-|:\+)`)
	named    = regexp.MustCompile(`^\$\{(` + name + `)(:=)`)
	reckoned = regexp.MustCompile(`^[A-Za-z0-9_ \t+\-*/%()<>=!]*$`)
)

// model is what Tokens answers.
func model(s string) ([]api.Token, int, api.Errno) {
	if len(s) > 2000 {
		return nil, 0, api.ErrLimit
	}
	if at := noLetter(s); at >= 0 {
		return nil, at, api.ErrForm
	}
	var l []api.Token
	for at := 0; ; {
		at += len(between.FindString(s[at:]))
		rest := s[at:]
		sign := oneSign.FindString(rest)
		switch {
		case rest == "":
			return append(l, api.Token{Kind: api.TEnd, At: at}), len(s), api.OK
		case sign != "":
			l = append(l, api.Token{Kind: api.TSign, Text: sign, At: at})
			at += len(sign)
		case rest[0] == '&':
			return nil, at, api.ErrForm
		default:
			parts, size, e := modelWord(rest)
			if e != api.OK {
				return nil, at, e
			}
			l = append(l, api.Token{Kind: api.TWord, Word: api.Word{Parts: parts}, At: at})
			at += size
		}
	}
}

// noLetter is the first byte that begins no letter, or is 0; -1: there is none.
func noLetter(s string) int {
	for i := 0; i < len(s); {
		r, size := utf8.DecodeRuneInString(s[i:])
		if r == 0 || r == utf8.RuneError && size == 1 {
			return i
		}
		i += size
	}
	return -1
}

// level is what stands open: a word, double quotes, or braces and their Var.
type level struct {
	closing string
	parts   []api.Part
	of      api.Part
}

// stack is all that stands open; the last one is within all others.
type stack []level

// put puts parts behind those of the last level.
func (x stack) put(l ...api.Part) {
	top := &x[len(x)-1]
	top.parts = join(top.parts, l)
}

// quoted tells whether the last level is double quotes.
func (x stack) quoted() bool { return x[len(x)-1].closing == `"` }

// braces is how many levels are braces.
func (x stack) braces() int {
	n := 0
	for _, l := range x {
		if l.closing == "}" {
			n++
		}
	}
	return n
}

// pop closes the last level.
func (x stack) pop() stack {
	top := x[len(x)-1]
	x = x[:len(x)-1]
	switch {
	case top.closing == "}":
		top.of.Word = top.parts
		x.put(top.of)
	case len(top.parts) == 0:
		x.put(quoted(""))
	default:
		x.put(top.parts...)
	}
	return x
}

// modelWord is the parts of the word that s begins with, and how many bytes it has.
func modelWord(s string) ([]api.Part, int, api.Errno) {
	x := stack{{}}
	for at := 0; ; {
		rest := s[at:]
		closing := x[len(x)-1].closing
		switch {
		case closing == "" && (rest == "" || wordEnd.MatchString(rest)):
			return x[0].parts, at, api.OK
		case rest == "":
			return nil, 0, api.ErrForm
		case closing != "" && rest[:1] == closing:
			x = x.pop()
			at++
		case rest[0] == '$':
			var size int
			var e api.Errno
			if x, size, e = modelDollar(x, rest); e != api.OK {
				return nil, 0, e
			}
			at += size
		case rest[0] == '"':
			x = append(x, level{closing: `"`})
			at++
		default:
			p, size := modelLit(x, rest)
			if size == 0 {
				return nil, 0, api.ErrForm
			}
			x.put(p)
			at += size
		}
	}
}

// modelLit is the Lit that s begins with, and how many bytes it has; 0: it begins with none.
func modelLit(x stack, s string) (api.Part, int) {
	plain := inWord
	if x.braces() > 0 {
		plain = inBraces
	}
	if x.quoted() {
		if m := inDouble.FindString(s); m != "" {
			return quoted(m), len(m)
		}
		if m := acting.FindStringSubmatch(s); m != nil {
			return quoted(m[1]), len(m[0])
		}
		m := escaped.FindString(s)
		return quoted(m), len(m)
	}
	if m := plain.FindString(s); m != "" {
		return lit(m), len(m)
	}
	for _, e := range []*regexp.Regexp{escaped, inSingle} {
		if m := e.FindStringSubmatch(s); m != nil {
			return quoted(m[1]), len(m[0])
		}
	}
	return api.Part{}, 0
}

// modelDollar puts what the dollar that s begins with stands for; and how many bytes that has.
func modelDollar(x stack, s string) (stack, int, api.Errno) {
	p := api.Part{Kind: api.Var, Quoted: x.quoted()}
	size, opens := 0, false
	switch {
	case strings.HasPrefix(s, "${"):
		if x.braces() == 20 {
			return nil, 0, api.ErrLimit
		}
		p.Text, p.Op, size, opens = modelBraces(s)
	case strings.HasPrefix(s, "$(("):
		p.Kind = api.Arith
		p.Text, size = modelArith(s)
	default:
		m := bare.FindStringSubmatch(s)
		if m == nil {
			x.put(quoted("$"))
			return x, 1, api.OK
		}
		p.Text, size = m[1], len(m[0])
	}
	if size == 0 || p.Kind == api.Var && len(p.Text) > 12 {
		return nil, 0, api.ErrForm
	}
	if opens {
		return append(x, level{closing: "}", of: p}), size, api.OK
	}
	x.put(p)
	return x, size, api.OK
}

// modelBraces is whose Var s begins with, its Op, how many bytes that has up to its Word, and whether it has a Word.
func modelBraces(s string) (text, op string, size int, opens bool) {
	if m := shut.FindStringSubmatch(s); m != nil {
		return m[1], "", len(m[0]), false
	}
	if m := counted.FindStringSubmatch(s); m != nil {
		return m[1], "#", len(m[0]), false
	}
	for _, e := range []*regexp.Regexp{opened, named} {
		if m := e.FindStringSubmatch(s); m != nil {
			return m[1], m[2], len(m[0]), true
		}
	}
	return "", "", 0, false
}

// modelArith is the Text of the Arith that s begins with, and how many bytes it has; 0: it begins with none.
func modelArith(s string) (string, int) {
	s = s[len("$(("):]
	for i := range len(s) {
		if strings.HasPrefix(s[i:], "))") && strings.Count(s[:i], "(") == strings.Count(s[:i], ")") {
			for j := range i {
				if strings.Count(s[:j], ")") > strings.Count(s[:j], "(") {
					return "", 0
				}
			}
			if !reckoned.MatchString(s[:i]) {
				return "", 0
			}
			return s[:i], len("$(())") + i
		}
	}
	return "", 0
}

// lit, quoted, param, arith are parts.
func lit(s string) api.Part    { return api.Part{Kind: api.Lit, Text: s} }
func quoted(s string) api.Part { return api.Part{Kind: api.Lit, Text: s, Quoted: true} }
func param(s, op string, l ...api.Part) api.Part {
	return api.Part{Kind: api.Var, Text: s, Op: op, Word: l}
}
func arith(s string) api.Part { return api.Part{Kind: api.Arith, Text: s} }

// in is a part that stands within quotes.
func in(p api.Part) api.Part {
	p.Quoted = true
	return p
}

// join is rows of parts, one behind the other: Lits side by side that are both Quoted or both not are one.
func join(rows ...[]api.Part) []api.Part {
	var all []api.Part
	for _, p := range slices.Concat(rows...) {
		last := len(all) - 1
		if p.Kind == api.Lit && last >= 0 && all[last].Kind == api.Lit && all[last].Quoted == p.Quoted {
			all[last].Text += p.Text
			continue
		}
		all = append(all, p)
	}
	return all
}

// word, sign, fin are tokens.
func word(at int, l ...api.Part) api.Token {
	return api.Token{Kind: api.TWord, Word: api.Word{Parts: l}, At: at}
}
func sign(at int, s string) api.Token { return api.Token{Kind: api.TSign, Text: s, At: at} }
func fin(at int) api.Token            { return api.Token{Kind: api.TEnd, At: at} }

// samePart tells whether two parts are the same in all.
func samePart(a, b api.Part) bool {
	return a.Kind == b.Kind && a.Text == b.Text && a.Op == b.Op && a.Quoted == b.Quoted && slices.EqualFunc(a.Word, b.Word, samePart)
}

// sameToken tells whether two tokens are the same in all.
func sameToken(a, b api.Token) bool {
	return a.Kind == b.Kind && a.Text == b.Text && a.At == b.At && slices.EqualFunc(a.Word.Parts, b.Word.Parts, samePart)
}

// same tells whether two rows of tokens are the same in all.
func same(a, b []api.Token) bool { return slices.EqualFunc(a, b, sameToken) }

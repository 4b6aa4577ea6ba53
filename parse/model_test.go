package parse_test

import (
	"regexp"
	"slices"
	"strings"

	"lazarus/api"
	"lazarus/lex"
)

// The model goes through all that the grammar allows, side by side: it looks nowhere ahead, so what does not fit is the token that no way gets behind, and a script has just one way. It has nothing in common with the package.

// grammar is that of the chapter, with names for what it says of some words: first is one that may begin a command, second one that is no assign, pattern one that does not end a case, function one that may be a fun's name; whole is no token: there no word and no redir is left that a simple command would take.
const grammar = `
script  = list TEnd
list    = { NL } andor { sep andor } [ sep ]
sep     = ( ";" | NL ) { NL }
andor   = pipe { ( "&&" | "||" ) { NL } pipe }
pipe    = [ "!" ] command { "|" { NL } command }
command = ( group | sub | if | loop | for | case ) { redir } | fun | simple
group   = "{" list "}"
sub     = "(" list ")"
if      = "if" list "then" list tail
tail    = "fi" | "else" list "fi" | elif
elif    = "elif" list "then" list tail
loop    = ( "while" | "until" ) list "do" list "done"
for     = "for" name "in" { word } sep "do" list "done"
case    = "case" word "in" { NL } { item } "esac"
item    = ( "(" word | pattern ) { "|" word } ")" list ";;" { NL }
fun     = function "(" ")" { NL } held
held    = group | sub
simple  = ( { redir } first { word | redir } | redir { redir } | { redir } assign { assign | redir } [ second { word | redir } ] ) whole
redir   = ( "<" | ">" | ">>" ) word
`

// expr is an expression of the grammar: kind is | of alternatives, & of a row, { of a thing any number of times, [ of one that may be left out, . of a name or a quoted text.
type expr struct {
	kind byte
	name string
	of   []expr
}

// rules are the grammar's lines by their names.
var rules = readGrammar()

func readGrammar() map[string]expr {
	m := map[string]expr{}
	for line := range strings.Lines(strings.TrimSpace(grammar)) {
		l := strings.Fields(line)
		r := exprReader{l[2:]}
		m[l[0]] = r.alternatives()
	}
	return m
}

type exprReader struct{ left []string }

func (r *exprReader) take() string {
	s := r.left[0]
	r.left = r.left[1:]
	return s
}

func (r *exprReader) alternatives() expr {
	e := expr{kind: '|', of: []expr{r.row()}}
	for len(r.left) > 0 && r.left[0] == "|" {
		r.take()
		e.of = append(e.of, r.row())
	}
	return e
}

func (r *exprReader) row() expr {
	e := expr{kind: '&'}
	for len(r.left) > 0 && !strings.Contains("|)]}", r.left[0]) {
		s := r.take()
		switch s {
		case "(", "{", "[":
			x := r.alternatives()
			r.take()
			if s != "(" {
				x = expr{kind: s[0], of: []expr{x}}
			}
			e.of = append(e.of, x)
		default:
			e.of = append(e.of, expr{kind: '.', name: s})
		}
	}
	return e
}

// leaf is a token, and what the grammar has it as.
type leaf struct {
	as string
	k  api.Token
}

// item is a kid of a case.
type item struct {
	pats []api.Word
	kid  made
}

// way is one that gets up to a token, and what it came by: of leaf, made, api.Redir, item.
type way struct {
	end int
	got []any
}

// model is a row of tokens, and how far any way got; deep: there a command is to begin within too many others.
type model struct {
	l    []api.Token
	far  int
	deep int
}

// modelParse is what Parse answers.
func modelParse(s string) (api.Prog, int, api.Errno) {
	l, at, e := lex.Tokens(s)
	if e != api.OK {
		return api.Prog{}, at, e
	}
	m := model{l: l, deep: -1}
	ways := m.ways(expr{kind: '.', name: "script"}, 0, 0)
	switch {
	case len(ways) > 1:
		panic("two ways: " + s)
	case len(ways) == 0 && m.deep == m.far:
		return api.Prog{}, l[m.far].At, api.ErrLimit
	case len(ways) == 0:
		return api.Prog{}, l[m.far].At, api.ErrForm
	}
	p := ways[0].got[0].(made).prog()
	if len(p.Nodes) > 200 {
		return api.Prog{}, 0, api.ErrLimit
	}
	return p, len(s), api.OK
}

// ways are all that an expression has from a token on, within so many commands.
func (m *model) ways(x expr, at, depth int) []way {
	var l []way
	switch x.kind {
	case '|':
		for _, y := range x.of {
			l = append(l, m.ways(y, at, depth)...)
		}
	case '&':
		l = []way{{end: at}}
		for _, y := range x.of {
			l = m.further(l, y, depth)
		}
	case '[':
		l = append(m.ways(x.of[0], at, depth), way{end: at})
	case '{':
		last := []way{{end: at}}
		for len(last) > 0 {
			l = append(l, last...)
			last = m.further(last, x.of[0], depth)
		}
	case '.':
		if y, ok := rules[x.name]; ok {
			return m.rule(x.name, y, at, depth)
		}
		if x.name == "whole" {
			return m.whole(at)
		}
		m.far = max(m.far, at)
		if at < len(m.l) && fits(x.name, m.l[at]) {
			return []way{{at + 1, []any{leaf{x.name, m.l[at]}}}}
		}
	}
	return l
}

// whole is the way on of what takes all words and redirs that stand there, if none is left.
func (m *model) whole(at int) []way {
	if k := m.l[at]; k.Kind == api.TWord || strings.ContainsAny(k.Text, "<>") {
		return nil
	}
	return []way{{end: at}}
}

// further is each way, with each that an expression has from there on.
func (m *model) further(l []way, x expr, depth int) []way {
	var further []way
	for _, w := range l {
		for _, v := range m.ways(x, w.end, depth) {
			further = append(further, way{v.end, append(w.got[:len(w.got):len(w.got)], v.got...)})
		}
	}
	return further
}

// rule is the ways of one of the grammar's lines, each with what it came by as one.
func (m *model) rule(name string, x expr, at, depth int) []way {
	switch name {
	case "command", "held", "elif":
		if depth == 20 {
			m.far, m.deep = max(m.far, at), max(m.deep, at)
			return nil
		}
		depth++
	}
	l := m.ways(x, at, depth)
	for i, w := range l {
		l[i].got = build(name, w.got)
	}
	return l
}

// plain is the text of a sign, or of a word that has just one part, which is not Quoted.
func plain(k api.Token) string {
	if k.Kind == api.TWord && len(k.Word.Parts) == 1 && k.Word.Parts[0].Kind == api.Lit && !k.Word.Parts[0].Quoted {
		return k.Word.Parts[0].Text
	}
	return k.Text
}

var (
	aName    = regexp.MustCompile(`^[A-Za-z_][A-Za-z0-9_]{0,11}$`)
	anAssign = regexp.MustCompile(`^([A-Za-z_][A-Za-z0-9_]{0,11})=`)
	reserved = strings.Fields("if then elif else fi while until do done for in case esac { } !")
)

// isAssign tells whether a token may be one.
func isAssign(k api.Token) bool {
	if k.Kind != api.TWord {
		return false
	}
	p := k.Word.Parts[0]
	return p.Kind == api.Lit && !p.Quoted && anAssign.MatchString(p.Text)
}

// fits tells whether a token may be had as that.
func fits(as string, k api.Token) bool {
	s, word := plain(k), k.Kind == api.TWord
	switch as {
	case "TEnd":
		return k.Kind == api.TEnd
	case "NL":
		return s == "\n"
	case "word":
		return word
	case "name":
		return aName.MatchString(s)
	case "function":
		return aName.MatchString(s) && !slices.Contains(reserved, s)
	case "first":
		return word && !isAssign(k) && !slices.Contains(reserved, s)
	case "second":
		return word && !isAssign(k)
	case "pattern":
		return word && s != "esac"
	case "assign":
		return isAssign(k)
	}
	return s == strings.Trim(as, `"`)
}

// build is what a line of the grammar came by, as one.
func build(name string, got []any) []any {
	switch name {
	case "list":
		return one(many("seq", nodes(got)))
	case "andor":
		return one(leftFirst(got))
	case "pipe":
		n := many("pipe", nodes(got))
		if slices.Contains(texts(got), "!") {
			n = op("not", n)
		}
		return one(n)
	case "command":
		n := nodes(got)[0]
		n.Redirs = append(n.Redirs, all[api.Redir](got)...)
		return one(n)
	case "group", "sub", "if":
		return one(op(name, nodes(got)...))
	case "elif":
		return one(op("if", nodes(got)...))
	case "loop":
		return one(op(texts(got)[0], nodes(got)...))
	case "for":
		return one(made{api.Node{Op: name, Name: texts(got)[1], Words: tokens(got, "word")}, nodes(got)})
	case "case":
		n := made{Node: api.Node{Op: name, Words: tokens(got, "word")}}
		for _, x := range all[item](got) {
			n.Pats = append(n.Pats, x.pats)
			n.kids = append(n.kids, x.kid)
		}
		return one(n)
	case "item":
		return []any{item{tokens(got, "word", "pattern"), nodes(got)[0]}}
	case "fun":
		return one(made{api.Node{Op: name, Name: texts(got)[0]}, nodes(got)})
	case "simple":
		n := api.Node{Op: "cmd", Words: tokens(got, "first", "second", "word"), Redirs: all[api.Redir](got)}
		for _, w := range tokens(got, "assign") {
			n.Assigns = append(n.Assigns, given(w))
		}
		return one(made{Node: n})
	case "redir":
		return []any{api.Redir{Op: texts(got)[0], To: tokens(got, "word")[0]}}
	}
	return got
}

// one is a list of it alone.
func one(n made) []any { return []any{n} }

// all are those of a type.
func all[T any](got []any) []T {
	var l []T
	for _, x := range got {
		if y, ok := x.(T); ok {
			l = append(l, y)
		}
	}
	return l
}

func nodes(got []any) []made { return all[made](got) }

// texts are those of all tokens.
func texts(got []any) []string {
	var l []string
	for _, x := range all[leaf](got) {
		l = append(l, plain(x.k))
	}
	return l
}

// tokens are the words that were had as one of these.
func tokens(got []any, as ...string) []api.Word {
	var l []api.Word
	for _, x := range all[leaf](got) {
		if slices.Contains(as, x.as) {
			l = append(l, x.k.Word)
		}
	}
	return l
}

// many is a node of kids, or the only one.
func many(of string, l []made) made {
	if len(l) == 1 {
		return l[0]
	}
	return op(of, l...)
}

// leftFirst is the ands and ors of an andor.
func leftFirst(got []any) made {
	n := nodes(got)[0]
	of := ""
	for _, x := range got[1:] {
		switch y := x.(type) {
		case leaf:
			switch plain(y.k) {
			case "&&":
				of = "and"
			case "||":
				of = "or"
			}
		case made:
			n = op(of, n, y)
		}
	}
	return n
}

// given is an assign: the word's text up to the = is cut off.
func given(w api.Word) api.Assign {
	l := slices.Clone(w.Parts)
	ahead := anAssign.FindStringSubmatch(l[0].Text)
	l[0].Text = strings.TrimPrefix(l[0].Text, ahead[0])
	switch {
	case l[0].Text == "" && len(l) == 1:
		l[0].Quoted = true
	case l[0].Text == "":
		l = l[1:]
	}
	return api.Assign{Name: ahead[1], To: api.Word{Parts: l}}
}

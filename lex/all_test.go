package lex_test

import (
	"math/rand/v2"
	"strings"
	"testing"

	"lazarus/api"
	"lazarus/lex"
)

// texts goes through all texts of so many letters of these, and all shorter ones.
func texts(of []string, size int, see func(string)) {
	see("")
	row := make([]string, 0, size)
	var walk func()
	walk = func() {
		if len(row) == size {
			return
		}
		for _, c := range of {
			row = append(row, c)
			see(strings.Join(row, ""))
			walk()
			row = row[:len(row)-1]
		}
	}
	walk()
}

// split is its letters, each as a text.
func split(s string) []string { return strings.Split(s, "") }

func TestAllShortTexts(t *testing.T) {
	all := append(split(" \t\n;&|()<>'\"$\\#{}:-=+@?!aZ_019%"), "\u00e9", "\x00", "\xff")
	texts(all, 3, func(s string) { checkByModel(t, s) })
}

func TestAllShortTextsOfOneKind(t *testing.T) {
	for _, c := range []struct {
		of   string
		size int
	}{
		{" \n;&|#a", 5},
		{"<>()|& ", 5},
		{"'\"\\a ", 6},
		{"'\"\\$a", 6},
		{"${}a:-", 6},
		{"${}#a1", 6},
		{"${}:=+1a", 5},
		{"$()1", 8},
		{"$\"{}a\\", 6},
	} {
		texts(split(c.of), c.size, func(s string) { checkByModel(t, s) })
	}
}

func TestAllShortTextsWithinOthers(t *testing.T) {
	all := split(" \t\n;&|()<>'\"$\\#{}:-=+@?a10")
	for _, ahead := range []string{"${", "${a", "${a:", "${a:-", "${#", "${1", "\"", "\"${a:-", "\"${", "\"$", "$((", "\"$((1", "a$", "$a", "${a:-\"", "${a:-$((", "${a:=${b:-", "#", "a #"} {
		for _, behind := range []string{"", "}", "\"", "}\"", "))", "))}\"", "}}"} {
			texts(all, 2, func(s string) { checkByModel(t, ahead+s+behind) })
		}
	}
	for _, c := range []struct{ ahead, of, behind string }{
		{"$((", "() 1a-", "))"},
		{"\"$((", "()1\"", "))\""},
		{"${a:-", "${}a'", "}"},
		{"${a:-", "\"'\\}b", "}"},
		{"\"${a:-", "\"'\\}b", "}\""},
		{deep(18, "")[:18*5], "${}b:-", strings.Repeat("}", 18)},
		{deep(19, "")[:19*5], "${}b\"'", strings.Repeat("}", 19)},
		{deep(20, "")[:20*5], "${}b\"'", strings.Repeat("}", 20)},
		{"$abcdefghij", "klm-", ""},
		{"${abcdefghij", "klm}", "}"},
		{"${#abcdefghij", "k1_}", "}"},
	} {
		texts(split(c.of), 5, func(s string) { checkByModel(t, c.ahead+s+c.behind) })
	}
}

// writer makes words, each with its parts, by a row of numbers that is always the same.
type writer struct{ r *rand.Rand }

// one is one of these.
func (w writer) one(l ...string) string { return l[w.r.IntN(len(l))] }

// some is up to so many of these, one behind the other.
func (w writer) some(most int, l ...string) string {
	var b strings.Builder
	for range w.r.IntN(most + 1) {
		b.WriteString(w.one(l...))
	}
	return b.String()
}

// parts is a row of parts out of quotes within so many braces, and how it is written.
func (w writer) parts(depth int) (string, []api.Part) {
	var b strings.Builder
	var l []api.Part
	for range 1 + w.r.IntN(4) {
		s, p := w.part(depth)
		b.WriteString(s)
		l = join(l, p)
	}
	return b.String(), l
}

// part is what may stand out of quotes, beside any other.
func (w writer) part(depth int) (string, []api.Part) {
	switch w.r.IntN(5) {
	case 0:
		s := w.one("a", "\u00e9", "{", "=", "*", "0") + w.some(3, "b", "#", "1", ":", "\U0001f600")
		if depth > 0 {
			s += w.some(3, " ", "\n", ";", "&", "(", ">", "#", "\t")
		}
		return s, []api.Part{lit(s)}
	case 1:
		c := w.one("a", "'", "\"", "$", "\\", "}", " ", "\n", "\u20ac", "&")
		return "\\" + c, []api.Part{quoted(c)}
	case 2:
		s := w.some(4, "a", "\"", "$", "\\", "}", " ", "\n", "\u20ac", "#", "${")
		return "'" + s + "'", []api.Part{quoted(s)}
	case 3:
		return w.double(depth)
	}
	s, p := w.dollar(depth)
	return s, []api.Part{p}
}

// double is double quotes, and what stands within.
func (w writer) double(depth int) (string, []api.Part) {
	var b strings.Builder
	var l []api.Part
	for range w.r.IntN(4) {
		switch w.r.IntN(3) {
		case 0:
			s := w.one("a", "'", " ", "}", "\n", "#", "\u00e9", ";")
			b.WriteString(s)
			l = join(l, []api.Part{quoted(s)})
		case 1:
			c := w.one("a", "'", "\"", "$", "\\", "}", "\n")
			b.WriteString("\\" + c)
			if !strings.Contains("\"$\\", c) {
				c = "\\" + c
			}
			l = join(l, []api.Part{quoted(c)})
		default:
			s, p := w.dollar(depth)
			b.WriteString(s)
			l = join(l, []api.Part{in(p)})
		}
	}
	if l == nil {
		l = []api.Part{quoted("")}
	}
	return "\"" + b.String() + "\"", l
}

// dollar is a Var or an Arith, and how it is written, so that any other may stand behind it.
func (w writer) dollar(depth int) (string, api.Part) {
	other := w.one("1", "9", "@", "#", "?")
	name := w.one("a", "Z9", "_", "abcdefghijkl")
	kind := w.r.IntN(8)
	if depth == 20 && kind > 1 {
		kind %= 2
	}
	switch kind {
	case 0:
		return "$" + other, param(other, "")
	case 1:
		s := w.one("", "1", "(1+2)*a", " ( ( ) ) ", "\t!x<=-3")
		return "$((" + s + "))", arith(s)
	case 2:
		return "${" + other + "}", param(other, "")
	case 3:
		return "${#" + name + "}", param(name, "#")
	case 4:
		return "${" + name + "}", param(name, "")
	}
	op, of := w.one(":-", ":+", ":="), name
	if op != ":=" {
		of = w.one(name, other)
	}
	if w.r.IntN(8) == 0 {
		return "${" + of + op + "}", param(of, op)
	}
	s, l := w.parts(depth + 1)
	return "${" + of + op + s + "}", param(of, op, l...)
}

// text is tokens, with what may stand between them, and what they are.
func (w writer) text() (string, []api.Token) {
	var b strings.Builder
	var l []api.Token
	for range w.r.IntN(6) {
		b.WriteString(w.some(2, " ", "\t"))
		s, parts := w.parts(0)
		l = append(l, word(b.Len(), parts...))
		b.WriteString(s + w.one("", " ", "\t"))
		s = w.one(allSigns...)
		l = append(l, sign(b.Len(), s))
		b.WriteString(s)
		b.WriteString(w.one("", " ", "\t \t"))
		if w.r.IntN(4) == 0 {
			b.WriteString("#" + w.some(3, "'", "$((", "\u00e9", "&", " "))
			l = append(l, sign(b.Len(), "\n"))
			b.WriteString("\n")
		}
	}
	return b.String(), append(l, fin(b.Len()))
}

func TestTextsOfAllKinds(t *testing.T) {
	w := writer{rand.New(rand.NewPCG(8, 20))}
	deepest := 0
	for range 30_000 {
		s, want := w.text()
		if len(s) > api.MaxText {
			checkErr(t, s, 0, api.ErrLimit)
			continue
		}
		check(t, s, want...)
		deepest = max(deepest, strings.Count(s, "}}"))
		// The same with a byte less, or another one somewhere.
		at := w.r.IntN(len(s) + 1)
		checkByModel(t, s[:at])
		checkByModel(t, s[:at]+w.one("'", "\"", "$", "\\", "}", "{", "&", "(", ")", "#", " ", "\n", "a")+s[at:])
	}
	if deepest < 5 {
		t.Errorf("no text has braces within braces")
	}
}

func TestEveryCallEnds(t *testing.T) {
	for _, c := range []string{"'", "\"", "\\", "$", "${", "${a", "${a:-", "\"${a:-", "${a:-\"", "$((", "$(", "(", ")", "}", "))", "#", "&", "& ", "a", "\u00e9", "\x00", "\xff", "\xe2\x82", "$a", "${a}", "''", "\"\"", "\\a", "$((1))", "$(()", ";", "\n"} {
		for _, times := range []int{1, 2, 19, 20, 21, 100, 285, 333, 400, 666, 1000, 2000, 1 << 16} {
			checkByModel(t, strings.Repeat(c, times))
		}
	}
}

func FuzzTokens(f *testing.F) {
	for _, s := range kept {
		f.Add(s)
	}
	for _, l := range [][]piece{outside, inside} {
		for _, p := range l {
			f.Add(p.s)
			f.Add("\"" + p.s + "\"")
		}
	}
	for _, s := range []string{"&", "a &", "'", "\"", "\\", "${", "${a:-", "$((", "$(()", "$abcdefghijklm", deep(21, "x"), deep(20, "'"), "a\x00", "\xff'"} {
		f.Add(s)
	}
	f.Fuzz(func(t *testing.T, s string) {
		checkByModel(t, s)
		l, _, e := lex.Tokens(s)
		if e == api.OK && (len(l) == 0 || !sameToken(l[len(l)-1], fin(len(s)))) {
			t.Errorf("Tokens(%q) has no end", s)
		}
	})
}

package glob

import (
	"unicode/utf8"

	"lazarus/api"
)

// piece is any letters (many), or one letter that is an item's (not: of none).
type piece struct {
	many  bool
	not   bool
	items []api.Char
}

// pieces are what a pattern is made of, from left to right.
func pieces(p []api.Char) []piece {
	var l []piece
	ends := true
	for len(p) > 0 {
		x, size := piece{items: p[:1]}, 1
		switch {
		case is(p[0], '*'):
			x = piece{many: true}
		case is(p[0], '?'):
			x = piece{not: true}
		case is(p[0], '[') && ends:
			// What ends a bracket would have ended one that began ahead of it, so behind a [ that has no end none is looked for: it would be too often where there are many.
			if b, n := bracket(p); n > 0 {
				x, size = b, n
			} else {
				ends = false
			}
		}
		l = append(l, x)
		p = p[size:]
	}
	return l
}

// bracket is the one that a pattern begins with, and how many letters it is written with; 0: its [ has no end.
func bracket(p []api.Char) (x piece, size int) {
	rest := p[1:]
	if len(rest) > 0 && is(rest[0], '!') {
		x.not = true
		rest = rest[1:]
	}
	for i, c := range rest {
		// The first item may be a ] too.
		if i > 0 && is(c, ']') {
			x.items = rest[:i]
			return x, len(p) - len(rest) + i + 1
		}
	}
	return piece{}, 0
}

// takes tells whether it is one letter that is as the piece says.
func (x piece) takes(r rune) bool {
	for l := x.items; len(l) > 0; {
		from, to, size := item(l)
		if from <= r && r <= to {
			return !x.not
		}
		l = l[size:]
	}
	return x.not
}

// item is the first of some items: from which letter to which, and how many letters it is written with.
func item(l []api.Char) (from, to rune, size int) {
	from = letter(l[0])
	if len(l) > 2 && is(l[1], '-') {
		return from, letter(l[2]), 3
	}
	return from, from, 1
}

// letter is a Char's letter as Text has it, so that a pattern of what is no letter matches its Text too.
func letter(c api.Char) rune {
	if !utf8.ValidRune(c.R) {
		return utf8.RuneError
	}
	return c.R
}

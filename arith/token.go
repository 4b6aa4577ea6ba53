package arith

import (
	"strings"

	"lazarus/glyph"
)

// token takes the next token: a sign, digits, a name as long as its letters go, or one byte that begins none of these; empty: nothing is left.
func (x *reckoner) token() string {
	s := strings.TrimLeftFunc(x.left, glyph.Blank)
	x.left = behind(s)
	return s[:len(s)-len(x.left)]
}

// behind is what stands behind the token that s begins with.
func behind(s string) string {
	switch {
	case s == "":
		return s
	// Each letter of a token is one byte, so a byte alone tells what begins there.
	case digit(rune(s[0])):
		return strings.TrimLeftFunc(s, digit)
	case glyph.First(rune(s[0])):
		return strings.TrimLeftFunc(s, glyph.More)
	// Ahead of the shorter signs, because the longest is taken.
	case len(s) > 1 && level(s[:2]) != none:
		return s[2:]
	}
	return s[1:]
}

// digit tells whether it is one.
func digit(r rune) bool { return glyph.More(r) && !glyph.First(r) }

// digits tells whether a token is some.
func digits(token string) bool { return token != "" && digit(rune(token[0])) }

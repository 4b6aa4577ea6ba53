package lex

import (
	"strings"

	"lazarus/glyph"
)

// end stands behind the last letter; no letter of a text is 0.
const end = 0

// letter is a letter, and at which byte it begins.
type letter struct {
	r  rune
	at int
}

// reader is the letters that are left, and at last end.
type reader struct{ left []letter }

// read is a reader of a text.
func read(s string) *reader {
	l := make([]letter, 0, glyph.Count(s)+1)
	for at, r := range s {
		l = append(l, letter{r, at})
	}
	return &reader{append(l, letter{end, len(s)})}
}

// next is the letter that stands next, or end.
func (x *reader) next() rune { return x.left[0].r }

// at is the byte at which it begins.
func (x *reader) at() int { return x.left[0].at }

// take takes the letter that stands next; end is never taken, so that there is always one.
func (x *reader) take() rune {
	r := x.next()
	if r != end {
		x.left = x.left[1:]
	}
	return r
}

// takes takes these letters, if all of them stand next.
func (x *reader) takes(s string) bool {
	i := 0
	for _, r := range s {
		// This never looks behind end, because that is none of s.
		if x.left[i].r != r {
			return false
		}
		i++
	}
	x.left = x.left[i:]
	return true
}

// till takes letters up to one that stops, or to the end.
func (x *reader) till(stops func(rune) bool) string {
	var b strings.Builder
	for x.next() != end && !stops(x.next()) {
		b.WriteRune(x.take())
	}
	return b.String()
}

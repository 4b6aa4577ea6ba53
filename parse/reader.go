package parse

import (
	"lazarus/api"
	"lazarus/glyph"
	"lazarus/tree"
)

// reader is the tokens that are left, the end last of all; and the first error, with its byte.
type reader struct {
	left []api.Token
	at   int
	err  api.Errno
}

// next is the token that stands next.
func (x *reader) next() api.Token { return x.left[0] }

// take takes the token that stands next; the end is never taken, so that there is always one.
func (x *reader) take() api.Token {
	k := x.next()
	if k.Kind != api.TEnd {
		x.left = x.left[1:]
	}
	return k
}

// fail tells an error at the token that stands next.
func (x *reader) fail(e api.Errno) {
	if x.err == api.OK {
		x.at, x.err = x.next().At, e
	}
	// Behind an error only the end is left, so that whatever is being read there ends.
	x.left = x.left[len(x.left)-1:]
}

// text is a sign, or a word that is Plain, as the grammar has it in quotes; empty, if it is neither.
func text(k api.Token) string {
	if k.Kind == api.TWord {
		s, _ := tree.Plain(k.Word)
		return s
	}
	return k.Text
}

// is tells whether that stands next.
func (x *reader) is(s string) bool { return text(x.next()) == s }

// takes takes that, if it stands next.
func (x *reader) takes(s string) bool {
	if !x.is(s) {
		return false
	}
	x.take()
	return true
}

// need takes that, which must stand next.
func (x *reader) need(s string) {
	if !x.takes(s) {
		x.fail(api.ErrForm)
	}
}

// isWord tells whether a word stands next.
func (x *reader) isWord() bool { return x.next().Kind == api.TWord }

// word takes a word, which must stand next.
func (x *reader) word() api.Word {
	if !x.isWord() {
		x.fail(api.ErrForm)
	}
	return x.take().Word
}

// name takes a name, which must stand next.
func (x *reader) name() string {
	if !x.isName() {
		x.fail(api.ErrForm)
	}
	return text(x.take())
}

// isName tells whether a name stands next.
func (x *reader) isName() bool { return glyph.Name(text(x.next())) }

package split

import (
	"lazarus/api"
	"lazarus/glyph"
)

// fields are those that have ended, and the letters of the last one, if one was begun.
type fields struct {
	ended [][]api.Char
	last  []api.Char
	begun bool
}

// add takes a run.
func (f *fields) add(x Run) {
	if x.Break {
		f.end()
		return
	}
	// A Quote begins a field even where it has no letter.
	f.begun = f.begun || x.Quote
	for _, r := range x.Text {
		if x.Split && !x.Quote && glyph.Blank(r) {
			f.end()
			continue
		}
		f.last = append(f.last, api.Char{R: r, Q: x.Quote})
		f.begun = true
	}
}

// end ends the field that was begun, if one was.
func (f *fields) end() {
	if !f.begun {
		return
	}
	f.ended = append(f.ended, f.last)
	// The next one is begun without this one's room: no two of them may share any.
	f.last, f.begun = nil, false
}

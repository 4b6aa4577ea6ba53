package split_test

import (
	"fmt"
	"slices"
	"testing"

	"lazarus/api"
	"lazarus/split"
)

// plain is a run that is none of the three.
func plain(s string) split.Run { return split.Run{Text: s} }

// quote is a Quote.
func quote(s string) split.Run { return split.Run{Text: s, Quote: true} }

// parted is a Split.
func parted(s string) split.Run { return split.Run{Text: s, Split: true} }

// stop is a Break that has letters.
var stop = split.Run{Text: "x y", Break: true}

// row is a row of runs.
func row(l ...split.Run) []split.Run { return l }

// of is a field: what stands behind a backslash is Quoted.
func of(s string) []api.Char {
	l := []api.Char{}
	quoted := false
	for _, r := range s {
		if r == '\\' && !quoted {
			quoted = true
			continue
		}
		l = append(l, api.Char{R: r, Q: quoted})
		quoted = false
	}
	return l
}

// spelt is a field as of has it, unless it has a backslash.
func spelt(l []api.Char) string {
	s := ""
	for _, c := range l {
		if c.Q {
			s += `\`
		}
		s += string(c.R)
	}
	return s
}

// told are runs as a text that is not too long.
func told(l []split.Run) string {
	s := ""
	for _, x := range l[:min(len(l), 40)] {
		s += fmt.Sprintf("%+.40q", x.Text)
		for _, is := range []struct {
			set  bool
			name string
		}{{x.Quote, "Quote"}, {x.Split, "Split"}, {x.Break, "Break"}} {
			if is.set {
				s += " " + is.name
			}
		}
		s += "; "
	}
	return "[" + s + "]"
}

// toldAll are fields as a text that is not too long.
func toldAll(l [][]api.Char) string {
	var all []string
	for _, f := range l[:min(len(l), 40)] {
		all = append(all, spelt(f[:min(len(f), 40)]))
	}
	return fmt.Sprintf("%+q", all)
}

// same holds fields against others.
func same(a, b [][]api.Char) bool {
	return slices.EqualFunc(a, b, func(x, y []api.Char) bool { return slices.Equal(x, y) })
}

// clone is the same runs in a list without spare room.
func clone(l []split.Run) []split.Run { return slices.Clip(slices.Clone(l)) }

// cloneAll is the same fields in lists without spare room.
func cloneAll(l [][]api.Char) [][]api.Char {
	var all [][]api.Char
	for _, f := range l {
		all = append(all, slices.Clip(slices.Clone(f)))
	}
	return slices.Clip(all)
}

// parts holds what Fields answers, and that the model has it so.
func parts(t *testing.T, l []split.Run, want ...string) {
	t.Helper()
	var w [][]api.Char
	for _, s := range want {
		w = append(w, of(s))
	}
	if got := split.Fields(l); !same(got, w) {
		t.Errorf("%s: %s; want %s", told(l), toldAll(got), toldAll(w))
	}
	if got := modelFields(l); !same(got, w) {
		t.Errorf("the model: %s: %s; want %s", told(l), toldAll(got), toldAll(w))
	}
}

// joins holds what Join answers, and that the model has it so.
func joins(t *testing.T, l []split.Run, want string) {
	t.Helper()
	if got := split.Join(l); !slices.Equal(got, of(want)) {
		t.Errorf("%s: %q; want %q", told(l), spelt(got), want)
	}
	if got := modelJoin(l); !slices.Equal(got, of(want)) {
		t.Errorf("the model: %s: %q; want %q", told(l), spelt(got), want)
	}
}

// all holds what both answer against the model.
func all(t *testing.T, l []split.Run) {
	t.Helper()
	if got, want := split.Fields(l), modelFields(l); !same(got, want) {
		t.Errorf("%s: %s; want %s", told(l), toldAll(got), toldAll(want))
	}
	if got, want := split.Join(l), modelJoin(l); !slices.Equal(got, want) {
		t.Errorf("%s: %.200q; want %.200q", told(l), spelt(got), spelt(want))
	}
}

// rows calls f with each row of at most size of these, and tells how many that were.
func rows[T any](of []T, size int, f func(row []T)) int {
	n := 0
	var grow func(row []T, left int)
	grow = func(row []T, left int) {
		f(row)
		n++
		for _, x := range of {
			if left > 0 {
				grow(append(slices.Clip(row), x), left-1)
			}
		}
	}
	grow(nil, size)
	return n
}

// texts calls f with each text of at most size of these pieces.
func texts(of []string, size int, f func(s string)) int {
	return rows(of, size, func(row []string) {
		s := ""
		for _, x := range row {
			s += x
		}
		f(s)
	})
}

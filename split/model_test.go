package split_test

import (
	"slices"
	"strings"

	"lazarus/api"
	"lazarus/split"
)

// The model first makes one long row of marks out of all runs, and then cuts it at each that ends a field: what is between two is a field, if it is anything.

// mark is that a field ends here, that one is begun here if none is, or a letter.
type mark struct {
	end   bool
	begin bool
	c     api.Char
}

// marks are those of all runs.
func marks(l []split.Run) []mark {
	var m []mark
	for _, x := range l {
		letters := []rune(x.Text)
		switch {
		case x.Break:
			m = append(m, mark{end: true})
			letters = nil
		case x.Quote:
			m = append(m, mark{begin: true})
		}
		for _, r := range letters {
			a := mark{c: api.Char{R: r, Q: x.Quote}}
			if strings.ContainsRune(" \t\n", r) && x.Split && !x.Quote {
				a = mark{end: true}
			}
			m = append(m, a)
		}
	}
	return m
}

// modelFields is what Fields should answer.
func modelFields(l []split.Run) [][]api.Char {
	var all [][]api.Char
	for m := marks(l); len(m) > 0; {
		at := slices.IndexFunc(m, func(a mark) bool { return a.end })
		if at < 0 {
			at = len(m)
		}
		if at > 0 {
			all = append(all, lettersOf(m[:at]))
		}
		m = m[min(at+1, len(m)):]
	}
	return all
}

// lettersOf are the letters among these marks.
func lettersOf(m []mark) []api.Char {
	var l []api.Char
	for _, a := range m {
		if !a.begin {
			l = append(l, a.c)
		}
	}
	return l
}

// modelJoin is what Join should answer.
func modelJoin(l []split.Run) []api.Char {
	var field []api.Char
	for _, x := range l {
		if x.Break {
			x = split.Run{Text: " "}
		}
		for _, r := range []rune(x.Text) {
			field = append(field, api.Char{R: r, Q: x.Quote})
		}
	}
	return field
}

// modelLines are all lines of a text.
func modelLines(s string) []string {
	l := strings.Split(s, "\n")
	if l[len(l)-1] == "" {
		l = l[:len(l)-1]
	}
	return l
}

// modelWords is what Words should answer.
func modelWords(s string) []string {
	var l []string
	for _, x := range strings.Split(strings.NewReplacer("\t", " ", "\n", " ").Replace(s), " ") {
		if x != "" {
			l = append(l, x)
		}
	}
	return l
}

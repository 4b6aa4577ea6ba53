package word

import (
	"lazarus/api"
	"lazarus/glob"
	"lazarus/split"
)

// text is the letters of all runs.
func text(l []split.Run) string { return glob.Text(split.Join(l)) }

// expand is all files that a field matches; its own text, if there are none.
func expand(field []api.Char, files []string) []string {
	var l []string
	if glob.Has(field) {
		for _, name := range files {
			if glob.Match(field, name) {
				l = append(l, name)
			}
		}
	}
	if len(l) == 0 {
		l = []string{glob.Text(field)}
	}
	return l
}

// tooLong tells whether a text has too many bytes.
func tooLong(s string) bool { return len(s) > api.MaxStr }

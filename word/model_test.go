package word_test

import (
	"maps"
	"slices"
	"strconv"
	"strings"

	"lazarus/api"
	reckon "lazarus/arith"
	"lazarus/glob"
	"lazarus/split"
)

// The model goes from the outside to the inside: a part is told all Vars that it stands within, and of these each run is what it is at last. An error is a panic.

// model is what is known.
type model struct {
	vars   map[string]string
	args   []string
	status int
}

// try has a model do something with what a job hands in; on an error the Env is as it was.
func try(j job, f func(m *model)) (now api.Env, err api.Errno) {
	m := &model{vars: map[string]string{}, args: j.env.Args, status: j.status}
	for _, b := range j.env.Vars {
		m.vars[b.Name] = b.Value
	}
	defer func() {
		now = j.env
		switch x := recover().(type) {
		case nil:
			now.Vars = m.bindings()
		case api.Errno:
			err = x
		default:
			panic(x)
		}
	}()
	f(m)
	return
}

// bindings are all values, in order.
func (m *model) bindings() []api.Binding {
	var l []api.Binding
	for _, name := range slices.Sorted(maps.Keys(m.vars)) {
		l = append(l, api.Binding{Name: name, Value: m.vars[name]})
	}
	return l
}

// modelRuns is what Runs should answer of a job's one word.
func modelRuns(j job) (l []split.Run, now api.Env, err api.Errno) {
	now, err = try(j, func(m *model) { l = m.runs(j.words[0].Parts) })
	return
}

// modelText is what Text should answer.
func modelText(j job) (s string, now api.Env, err api.Errno) {
	now, err = try(j, func(m *model) {
		joined := lettersOf(m.runs(j.words[0].Parts))
		must(joined)
		s = joined
	})
	return
}

// modelPattern is what Pattern should answer, if these are the Runs.
func modelPattern(l []split.Run) []api.Char {
	var p []api.Char
	for _, r := range l {
		if r.Break {
			r = plain(" ")
		}
		p = append(p, glob.Chars(r.Text, r.Quote)...)
	}
	return p
}

// modelFields is what Fields should answer.
func modelFields(j job) (l []string, now api.Env, err api.Errno) {
	now, err = try(j, func(m *model) {
		var all []string
		for _, w := range j.words {
			for _, f := range cut(m.runs(w.Parts)) {
				all = append(all, matching(f, j.files)...)
			}
			for _, s := range all {
				must(s)
			}
			if len(all) > api.MaxArgs {
				panic(api.ErrLimit)
			}
		}
		l = all
	})
	return
}

// must has an error, if a text is too long.
func must(s string) {
	if len(s) > api.MaxStr {
		panic(api.ErrLimit)
	}
}

// lettersOf are the letters of all runs, a blank for each Break.
func lettersOf(l []split.Run) string {
	s := ""
	for _, r := range l {
		if r.Break {
			s += " "
		} else {
			s += string([]rune(r.Text))
		}
	}
	return s
}

// cut makes of all runs one row of marks, and cuts it where a field ends: what is between is a field, if it is anything.
func cut(l []split.Run) [][]api.Char {
	const end, begin = -1, -2
	row := []api.Char{}
	for _, r := range l {
		if r.Break {
			row = append(row, api.Char{R: end})
			continue
		}
		if r.Quote {
			row = append(row, api.Char{R: begin})
		}
		for _, c := range r.Text {
			if r.Split && strings.ContainsRune(" \t\n", c) {
				c = end
			}
			row = append(row, api.Char{R: c, Q: r.Quote})
		}
	}
	var all [][]api.Char
	for len(row) > 0 {
		at := slices.IndexFunc(row, func(c api.Char) bool { return c.R == end })
		if at < 0 {
			at = len(row)
		}
		if at > 0 {
			all = append(all, slices.DeleteFunc(slices.Clone(row[:at]), func(c api.Char) bool { return c.R == begin }))
		}
		row = row[min(at+1, len(row)):]
	}
	return all
}

// matching is what a field stands for.
func matching(f []api.Char, files []string) []string {
	letters, acts := []rune{}, false
	for _, c := range f {
		letters = append(letters, c.R)
		acts = acts || !c.Q && strings.ContainsRune("*?[", c.R)
	}
	l := slices.DeleteFunc(slices.Clone(files), func(name string) bool { return !acts || !glob.Match(f, name) })
	if len(l) == 0 {
		return []string{string(letters)}
	}
	return l
}

// runs are the runs of parts that stand within Vars, each Quoted or not, the innermost first.
func (m *model) runs(l []api.Part, around ...bool) []split.Run {
	var all []split.Run
	for _, p := range l {
		all = append(all, m.part(p, around)...)
	}
	return all
}

// last is what a run is at last, if it stands within these.
func last(r split.Run, around []bool) split.Run {
	must(r.Text)
	if slices.Contains(around, true) {
		r.Quote = true
	}
	if len(around) > 0 {
		r.Split = true
	}
	if r.Quote {
		r.Split = false
	}
	return r
}

// part is the runs of a part.
func (m *model) part(p api.Part, around []bool) []split.Run {
	switch p.Kind {
	case api.Lit:
		return row(last(split.Run{Text: p.Text, Quote: p.Quoted}, around))
	case api.Arith:
		n, err := reckon.Eval(p.Text, m.bindings())
		if err != api.OK {
			panic(err)
		}
		return m.here(p, around, strconv.FormatInt(n, 10))
	}
	value, set := m.value(p.Text)
	empty := !set || value == ""
	switch {
	case p.Op == "#":
		return m.here(p, around, strconv.Itoa(len([]rune(value))))
	case p.Op == ":+" && empty:
		return m.instead(p, nil, around)
	case p.Op == ":+", p.Op == ":-" && empty:
		return m.instead(p, p.Word, around)
	case p.Op == ":=" && empty:
		value = lettersOf(m.runs(p.Word))
		must(value)
		m.vars[p.Text] = value
	}
	if p.Text == "@" {
		return m.here(p, around, m.args...)
	}
	return m.here(p, around, value)
}

// value is a parameter's value, and whether it is set.
func (m *model) value(whose string) (string, bool) {
	switch {
	case whose == "@":
		return strings.Join(m.args, " "), len(m.args) > 0
	case whose == "#":
		return strconv.Itoa(len(m.args)), true
	case whose == "?":
		return strconv.Itoa(m.status), true
	case len(whose) == 1 && whose[0] >= '1' && whose[0] <= '9':
		i := int(whose[0] - '1')
		if i >= len(m.args) {
			return "", false
		}
		return m.args[i], true
	}
	s, ok := m.vars[whose]
	return s, ok
}

// here are texts that stand in a part's place.
func (m *model) here(p api.Part, around []bool, l ...string) []split.Run {
	var all []split.Run
	for _, s := range l {
		all = append(all, last(stop, around), last(split.Run{Text: s, Quote: p.Quoted, Split: true}, around))
	}
	return all[min(1, len(all)):]
}

// instead are the runs of parts that stand in a Var's place.
func (m *model) instead(p api.Part, l []api.Part, around []bool) []split.Run {
	all := m.runs(l, append([]bool{p.Quoted}, around...)...)
	if len(all) == 0 && p.Quoted {
		all = row(last(quote(""), around))
	}
	return all
}

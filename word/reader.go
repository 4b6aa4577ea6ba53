package word

import (
	"strconv"
	"unicode/utf8"

	"lazarus/api"
	"lazarus/arith"
	"lazarus/env"
	"lazarus/split"
)

// reader reads a word part by part: what is known by now, and the runs so far.
type reader struct {
	env    api.Env
	status int
	runs   []split.Run
}

// parts reads parts, one after the other.
func (x *reader) parts(l []api.Part) api.Errno {
	for _, p := range l {
		if err := x.part(p); err != api.OK {
			return err
		}
	}
	return api.OK
}

// part reads a part.
func (x *reader) part(p api.Part) api.Errno {
	switch p.Kind {
	case api.Lit:
		return x.add(split.Run{Text: p.Text, Quote: p.Quoted})
	case api.Var:
		return x.parameter(p)
	case api.Arith:
		n, err := arith.Eval(p.Text, x.env.Vars)
		if err != api.OK {
			return err
		}
		return x.put(p, strconv.FormatInt(n, 10))
	}
	return api.OK
}

// parameter reads a Var.
func (x *reader) parameter(p api.Part) api.Errno {
	if p.Op == "#" {
		// No parameter but a name has this Op.
		s, _ := env.Get(x.env, p.Text)
		return x.put(p, strconv.Itoa(utf8.RuneCountInString(s)))
	}
	l := x.value(p.Text)
	// Between two texts there is a blank, which is a byte too.
	there := len(l) > 1 || len(l) == 1 && l[0] != ""
	switch {
	case p.Op == ":-" && !there, p.Op == ":+" && there:
		return x.within(p)
	case p.Op == ":+":
		p.Word = nil
		return x.within(p)
	case p.Op == ":=" && !there:
		return x.assign(p)
	}
	return x.put(p, l...)
}

// value is a parameter's value, that of @ as a list; what is unset is empty, because no Op asks which of the two it is.
func (x *reader) value(whose string) []string {
	switch whose {
	case "@":
		return x.env.Args
	case "#":
		return []string{strconv.Itoa(len(x.env.Args))}
	case "?":
		return []string{strconv.Itoa(x.status)}
	}
	if i, err := strconv.Atoi(whose); err == nil {
		s, _ := env.Arg(x.env, i)
		return []string{s}
	}
	s, _ := env.Get(x.env, whose)
	return []string{s}
}

// within reads a Var's Word, and has its runs be as what stands in the Var's place.
func (x *reader) within(p api.Part) api.Errno {
	from := len(x.runs)
	if err := x.parts(p.Word); err != api.OK {
		return err
	}
	l := x.runs[from:]
	if p.Quoted && len(l) == 0 {
		return x.put(p, "")
	}
	for i := range l {
		l[i].Quote = l[i].Quote || p.Quoted
		l[i].Split = !l[i].Quote
	}
	return api.OK
}

// assign reads a Var's Word, and gives its text to the Var's name.
func (x *reader) assign(p api.Part) api.Errno {
	from := len(x.runs)
	if err := x.parts(p.Word); err != api.OK {
		return err
	}
	s := text(x.runs[from:])
	x.runs = x.runs[:from]
	x.env = env.Set(x.env, p.Text, s)
	// That the value is not too long is told by its run.
	return x.put(p, s)
}

// put adds a run of each text, in a part's place, and a Break between two.
func (x *reader) put(p api.Part, l ...string) api.Errno {
	for i, s := range l {
		if i > 0 {
			x.runs = append(x.runs, split.Run{Break: true})
		}
		if err := x.add(split.Run{Text: s, Quote: p.Quoted, Split: !p.Quoted}); err != api.OK {
			return err
		}
	}
	return api.OK
}

// add adds a run.
func (x *reader) add(r split.Run) api.Errno {
	if tooLong(r.Text) {
		return api.ErrLimit
	}
	x.runs = append(x.runs, r)
	return api.OK
}

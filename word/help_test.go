package word_test

import (
	"fmt"
	"slices"
	"strings"
	"testing"

	"lazarus/api"
	"lazarus/lex"
	"lazarus/split"
	"lazarus/word"
)

// lit, quoted, param, arith are parts; in is one that stood within quotes.
func lit(s string) api.Part    { return api.Part{Kind: api.Lit, Text: s} }
func quoted(s string) api.Part { return in(lit(s)) }
func arith(s string) api.Part  { return api.Part{Kind: api.Arith, Text: s} }

func param(whose, op string, l ...api.Part) api.Part {
	return api.Part{Kind: api.Var, Text: whose, Op: op, Word: l}
}

func in(p api.Part) api.Part {
	p.Quoted = true
	return p
}

// of is a word of these parts.
func of(l ...api.Part) api.Word { return api.Word{Parts: l} }

// deep is parts within the Words of n Vars of a name that has no value.
func deep(n int, op string, l ...api.Part) []api.Part {
	for range n {
		l = []api.Part{param("z", op, l...)}
	}
	return l
}

// words are those that the lexer makes of a text.
func words(s string) []api.Word {
	l, _, e := lex.Tokens(s)
	if e != api.OK {
		panic("no words: " + s)
	}
	var w []api.Word
	for _, k := range l[:len(l)-1] {
		if k.Kind != api.TWord {
			panic("not words alone: " + s)
		}
		w = append(w, k.Word)
	}
	return w
}

// one is the word that the lexer makes of a text.
func one(s string) api.Word {
	l := words(s)
	if len(l) != 1 {
		panic("not one word: " + s)
	}
	return l[0]
}

// plain, quote, parted, stop are runs.
func plain(s string) split.Run  { return split.Run{Text: s} }
func quote(s string) split.Run  { return split.Run{Text: s, Quote: true} }
func parted(s string) split.Run { return split.Run{Text: s, Split: true} }

var stop = split.Run{Break: true}

// stopIn and stopOut are a Break within the Word of a Var that is, is not Quoted: all of its runs are Quote, Split there.
var (
	stopIn  = split.Run{Break: true, Quote: true}
	stopOut = split.Run{Break: true, Split: true}
)

// row is a row of runs.
func row(l ...split.Run) []split.Run { return l }

// job is what is handed in.
type job struct {
	words  []api.Word
	env    api.Env
	status int
	files  []string
}

// with is a job of these words, of what known knows.
func with(l ...api.Word) job { return job{words: l, env: known(), status: 7, files: someFiles()} }

// by is a job with another Env, args one with other Args, set one with another value of a name.
func (j job) by(e api.Env) job {
	j.env = e
	return j
}

func (j job) args(l ...string) job {
	j.env.Args = l
	return j
}

func (j job) set(name, value string) job {
	j.env = known(api.Binding{Name: name, Value: value})
	return j
}

// known is what is known: z and y are not, but for what is given here.
func known(more ...api.Binding) api.Env {
	l := append(more, []api.Binding{{Name: "a", Value: "x"}, {Name: "b", Value: "a b"}, {Name: "e"}, {Name: "f", Value: "\xff\u00e9\xc3"}, {Name: "g", Value: "*"}, {Name: "n", Value: "5"}, {Name: "s", Value: " p  q "}, {Name: "u", Value: "\u00e9\u20ac\U0001f600"}}...)
	// The first one of a name stays.
	slices.SortStableFunc(l, func(a, b api.Binding) int { return strings.Compare(a.Name, b.Name) })
	l = slices.CompactFunc(l, func(a, b api.Binding) bool { return a.Name == b.Name })
	return api.Env{Vars: l, Args: []string{"one", "", "t w"}, Funs: []api.Fun{{Name: "a", Node: 3}, {Name: "f", Node: 0}}}
}

// someFiles are files, not in order, one of them twice.
func someFiles() []string { return []string{"d", "cb", "*", "ab", "cb", "a b", "", "\xff"} }

// same holds an Env against another one.
func same(a, b api.Env) bool {
	return slices.Equal(a.Vars, b.Vars) && slices.Equal(a.Args, b.Args) && slices.Equal(a.Funs, b.Funs)
}

// told is a thing as a text that is not too long.
func told(x any) string { return fmt.Sprintf("%.600s", fmt.Sprintf("%+q", x)) }

// runs holds the Runs of a job's one word, and that the model has them so.
func (j job) runs(t *testing.T, want ...split.Run) {
	t.Helper()
	got, now, err := word.Runs(j.words[0], j.env, j.status)
	if !slices.Equal(got, want) || err != api.OK {
		t.Errorf("%s: %s, %v; want %s", told(j), told(got), err, told(want))
	}
	if m, _, _ := modelRuns(j); !slices.Equal(m, want) {
		t.Errorf("the model: %s: %s; want %s", told(j), told(m), told(want))
	}
	if !slices.ContainsFunc(j.words, assigns) && !same(now, j.env) {
		t.Errorf("%s: %s", told(j), told(now))
	}
	j.check(t)
}

// assigns tells whether a word has a := somewhere.
func assigns(w api.Word) bool {
	return slices.ContainsFunc(w.Parts, func(p api.Part) bool { return p.Op == ":=" || assigns(of(p.Word...)) })
}

// text holds the Text of a job's one word.
func (j job) text(t *testing.T, want string) {
	t.Helper()
	if got, _, err := word.Text(j.words[0], j.env, j.status); got != want || err != api.OK {
		t.Errorf("%s: %.200q, %v; want %.200q", told(j), got, err, want)
	}
	j.check(t)
}

// pattern holds the Pattern of a job's one word: what stands behind a backslash is Quoted.
func (j job) pattern(t *testing.T, want string) {
	t.Helper()
	got, _, err := word.Pattern(j.words[0], j.env, j.status)
	if spelt(got) != want || err != api.OK {
		t.Errorf("%s: %.200q, %v; want %.200q", told(j), spelt(got), err, want)
	}
	j.check(t)
}

// spelt is a pattern as a text, a backslash ahead of each letter that is Quoted.
func spelt(l []api.Char) string {
	var s []rune
	for _, c := range l {
		if c.Q {
			s = append(s, '\\')
		}
		s = append(s, c.R)
	}
	return string(s)
}

// fields holds the Fields of a job.
func (j job) fields(t *testing.T, want ...string) {
	t.Helper()
	if got, _, err := word.Fields(j.words, j.env, j.status, j.files); !slices.Equal(got, want) || err != api.OK {
		t.Errorf("%s: %s, %v; want %s", told(j), told(got), err, told(want))
	}
	j.check(t)
}

// after holds a value that Fields sets, and that nothing else is changed.
func (j job) after(t *testing.T, name, value string) {
	t.Helper()
	_, now, err := word.Fields(j.words, j.env, j.status, j.files)
	want := known(api.Binding{Name: name, Value: value})
	want.Args = j.env.Args
	if !same(now, want) || err != api.OK {
		t.Errorf("%s: %s, %v; want %s", told(j), told(now), err, told(want))
	}
}

// fails holds that Runs of a job's one word have an error, and so have the others.
func (j job) fails(t *testing.T, want api.Errno) {
	t.Helper()
	if _, _, err := word.Runs(j.words[0], j.env, j.status); err != want {
		t.Errorf("%s: %v; want %v", told(j), err, want)
	}
	if _, _, err := word.Pattern(j.words[0], j.env, j.status); err != want {
		t.Errorf("%s: Pattern: %v; want %v", told(j), err, want)
	}
	j.failsAsText(t, want)
	j.failsAsFields(t, want)
}

// failsAsText holds that Text of a job's one word has an error, failsAsFields that Fields have one.
func (j job) failsAsText(t *testing.T, want api.Errno) {
	t.Helper()
	if _, _, err := word.Text(j.words[0], j.env, j.status); err != want {
		t.Errorf("%s: Text: %v; want %v", told(j), err, want)
	}
	j.check(t)
}

func (j job) failsAsFields(t *testing.T, want api.Errno) {
	t.Helper()
	if _, _, err := word.Fields(j.words, j.env, j.status, j.files); err != want {
		t.Errorf("%s: Fields: %v; want %v", told(j), err, want)
	}
	j.check(t)
}

// check holds all four calls against the model, and what an error must answer.
func (j job) check(t *testing.T) {
	t.Helper()
	l, now, err := word.Fields(j.words, j.env, j.status, j.files)
	m, then, e := modelFields(j)
	if !slices.Equal(l, m) || !same(now, then) || err != e {
		t.Errorf("Fields of %s: %s, %s, %v; want %s, %s, %v", told(j), told(l), told(now), err, told(m), told(then), e)
	}
	for i := range j.words {
		k := j
		k.words = j.words[i : i+1]
		k.checkWord(t)
	}
}

// checkWord holds the three calls of one word against the model.
func (j job) checkWord(t *testing.T) {
	t.Helper()
	runs, now, err := word.Runs(j.words[0], j.env, j.status)
	wantRuns, then, e := modelRuns(j)
	if !slices.Equal(runs, wantRuns) || !same(now, then) || err != e {
		t.Errorf("Runs of %s: %s, %s, %v; want %s, %s, %v", told(j), told(runs), told(now), err, told(wantRuns), told(then), e)
	}
	p, now, err := word.Pattern(j.words[0], j.env, j.status)
	if want := modelPattern(wantRuns); !slices.Equal(p, want) || !same(now, then) || err != e {
		t.Errorf("Pattern of %s: %q, %s, %v; want %q, %s, %v", told(j), spelt(p), told(now), err, spelt(want), told(then), e)
	}
	s, now, err := word.Text(j.words[0], j.env, j.status)
	want, then, e := modelText(j)
	if s != want || !same(now, then) || err != e {
		t.Errorf("Text of %s: %.200q, %s, %v; want %.200q, %s, %v", told(j), s, told(now), err, want, told(then), e)
	}
}

// rows calls f with each row of at most size of these, and tells how many that were.
func rows[T any](of []T, size int, f func(row []T)) int {
	n := 0
	var grow func(row []T, left int)
	grow = func(row []T, left int) {
		f(row)
		n++
		for _, x := range of {
			if left > 0 {
				grow(append(slices.Clip(row), x), left-1)
			}
		}
	}
	grow(nil, size)
	return n
}

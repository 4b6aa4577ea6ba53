package word_test

import (
	"math"
	"math/rand/v2"
	"slices"
	"strings"
	"testing"

	"lazarus/api"
	"lazarus/lex"
	"lazarus/tree"
	"lazarus/word"
)

// kinds are parts of each kind, with each Op, Quoted and not, with these Words.
func kinds(inner ...[]api.Part) []api.Part {
	l := []api.Part{lit("a b"), lit("*"), arith("n+z"), arith("1/0"), arith("1+")}
	for _, whose := range []string{"b", "e", "z", "1", "2", "#", "?", "@"} {
		l = append(l, param(whose, ""))
		named := strings.Contains("bez", whose)
		if named {
			l = append(l, param(whose, "#"))
		}
		for _, w := range inner {
			l = append(l, param(whose, ":-", w...), param(whose, ":+", w...))
			if named {
				l = append(l, param(whose, ":=", w...))
			}
		}
	}
	n := len(l)
	for _, p := range l[:n] {
		l = append(l, in(p))
	}
	return append(l, quoted(""))
}

// envs are some that differ in what most hangs on.
func envs() []api.Env {
	e := known()
	none, empty, two := e, e, e
	none.Args, empty.Args, two.Args = nil, []string{""}, []string{"", ""}
	return []api.Env{e, none, empty, two, known(api.Binding{Name: "z", Value: " q* "}), {Args: []string{"* d", "x"}}}
}

func TestAllShortWords(t *testing.T) {
	n := rows(kinds(nil, one(`q' r'$@`).Parts, one(`"$@"`).Parts), 2, func(l []api.Part) {
		for _, e := range envs() {
			with(of(l...)).by(e).check(t)
		}
	})
	if n < 10000 {
		t.Error(n)
	}
}

func TestAllShortWordsWithinWords(t *testing.T) {
	inside := kinds(nil, one(`$@' '`).Parts)
	n := 0
	for _, whose := range []string{"b", "z", "@", "2"} {
		for _, op := range []string{":-", ":=", ":+"} {
			for _, x := range inside {
				for _, y := range []api.Part{lit("q r"), quoted("s"), param("z", ""), in(param("@", "")), param("z", ":=", quoted("*"))} {
					for _, p := range []api.Part{param(whose, op, x), param(whose, op, x, y), param(whose, op, y, x)} {
						if op == ":=" && whose != "b" && whose != "z" {
							continue
						}
						for _, e := range envs() {
							with(of(p, param("z", ""))).by(e).check(t)
							with(of(in(p), quoted("t"))).by(e).check(t)
							n++
						}
					}
				}
			}
		}
	}
	if n < 50000 {
		t.Error(n)
	}
}

func TestAllShortRowsOfWords(t *testing.T) {
	l := words(`a '' $z "$z" $b "$b" $@ "$@" ${z:=q*} ${z:-$b} ?b "?"b $((z)) $((1/0)) ${e:=d}* $s`)
	n := rows(l, 3, func(w []api.Word) {
		for _, e := range envs()[:4] {
			with(w...).by(e).check(t)
		}
	})
	if n < 4000 {
		t.Error(n)
	}
}

// maker makes up words.
type maker struct{ *rand.Rand }

// pick is one of these.
func pick[T any](r maker, l ...T) T { return l[r.IntN(len(l))] }

// text is a text of letters, some of which act somewhere.
func (r maker) text() string {
	s := ""
	for range r.IntN(5) {
		s += pick(r, "a", "b", "c", "d", " ", "\t", "\n", "*", "?", "[", "]", "-", "!", "\u00e9", "\U0001f600", "\xff", "\xc3", "0", "5", "")
	}
	if r.IntN(60) == 0 {
		s += strings.Repeat(pick(r, "x", "\u20ac", "\xff", " ", "*"), pick(r, 1000, 1333, 1334, 2000, 3999, 4000, 4001))
	}
	return s
}

// parts are some parts within so many Words.
func (r maker) parts(depth int) []api.Part {
	var l []api.Part
	for range r.IntN(5) {
		p := api.Part{Kind: pick(r, api.Lit, api.Lit, api.Var, api.Var, api.Var, api.Var, api.Arith), Quoted: r.IntN(2) == 0}
		switch p.Kind {
		case api.Lit:
			p.Text = r.text()
		case api.Arith:
			p.Text = pick(r, "1", "n", "z+1", "a+y", "n*n-z", "e", "b", "1/z", "1+", "-5")
		case api.Var:
			p.Text = pick(r, "a", "b", "e", "z", "y", "s", "g", "z", "y", "1", "2", "9", "#", "?", "@", "@")
			p.Op = pick(r, "", ":-", ":=", ":+", "#")
			if named := p.Text[0] >= 'a'; !named && (p.Op == ":=" || p.Op == "#") {
				p.Op = ":-"
			}
			if p.Op != "" && p.Op != "#" && depth < 6 {
				p.Word = r.parts(depth + 1)
			}
		}
		l = append(l, p)
	}
	return l
}

// job is one made up.
func (r maker) job() job {
	var j job
	for range 1 + r.IntN(4) {
		j.words = append(j.words, of(r.parts(0)...))
	}
	for _, name := range []string{"a", "b", "e", "g", "n", "s", "y", "z"} {
		if r.IntN(2) == 0 {
			j.env.Vars = append(j.env.Vars, api.Binding{Name: name, Value: r.text()})
		}
	}
	for range r.IntN(4) {
		j.env.Args = append(j.env.Args, r.text())
	}
	for range r.IntN(6) {
		j.files = append(j.files, r.text())
	}
	j.env.Funs = []api.Fun{{Name: "f", Node: r.IntN(9)}}
	j.status = r.IntN(256)
	return j
}

func TestMadeUpWords(t *testing.T) {
	r := maker{rand.New(rand.NewPCG(16, 1))}
	n := map[api.Errno]int{}
	matched, set := 0, 0
	for range 30000 {
		j := r.job()
		j.check(t)
		l, e, err := word.Fields(j.words, j.env, j.status, j.files)
		n[err]++
		if !same(e, j.env) {
			set++
		}
		if slices.ContainsFunc(l, func(s string) bool { return slices.Contains(j.files, s) }) {
			matched++
		}
	}
	if n[api.OK] < 10000 || n[api.ErrForm] < 500 || n[api.ErrMath] < 500 || n[api.ErrLimit] < 500 || matched < 500 || set < 2000 {
		t.Error(n, matched, set)
	}
}

// The Text of the parts of two words, side by side, is both Texts, the second one by what the first one set.
func TestTextsOfPartsSideBySide(t *testing.T) {
	r := maker{rand.New(rand.NewPCG(16, 2))}
	n := 0
	for range 20000 {
		j := r.job()
		w := of(slices.Concat(j.words[0].Parts, j.words[len(j.words)-1].Parts)...)
		first, e, err := word.Text(j.words[0], j.env, j.status)
		if err != api.OK {
			continue
		}
		second, e, err := word.Text(j.words[len(j.words)-1], e, j.status)
		if err != api.OK || len(first)+len(second) > api.MaxStr {
			continue
		}
		n++
		if s, now, err := word.Text(w, j.env, j.status); s != first+second || !same(now, e) || err != api.OK {
			t.Errorf("%s: %.200q, %v; want %.200q", told(j), s, err, first+second)
		}
	}
	if n < 5000 {
		t.Error(n)
	}
}

// Text and Pattern are of the same letters; of a word all of which is Quoted all runs are Quote, and Text is its one field, if there is no Break.
func TestTheCallsGoTogether(t *testing.T) {
	r := maker{rand.New(rand.NewPCG(16, 3))}
	n := 0
	for range 20000 {
		j := r.job()
		w := j.words[0]
		for i := range w.Parts {
			w.Parts[i].Quoted = true
		}
		s, _, err := word.Text(w, j.env, j.status)
		if err != api.OK {
			continue
		}
		p, _, _ := word.Pattern(w, j.env, j.status)
		runs, _, _ := word.Runs(w, j.env, j.status)
		l, _, _ := word.Fields([]api.Word{w}, j.env, j.status, j.files)
		letters := ""
		breaks := 0
		for _, c := range p {
			letters += string(c.R)
		}
		for _, x := range runs {
			if x.Break {
				breaks++
			} else if !x.Quote || x.Split {
				t.Errorf("%s: %s", told(w), told(runs))
			}
		}
		if letters != s || breaks == 0 && len(runs) > 0 && !slices.Equal(l, []string{s}) || len(l) != 0 && len(l) != breaks+1 {
			t.Errorf("%s: %q, %q, %q", told(w), s, letters, l)
		}
		n++
	}
	if n < 5000 {
		t.Error(n)
	}
}

// Of what is no word, or no Env, nothing is said but what holds everywhere.
func TestOfWhatIsNoneCallsEnd(t *testing.T) {
	texts := []string{"", "a", "0", "10", "12", "-1", "+1", "99999999999999999999", "@", "#", "?", "$", "\xff", "a b", "1 1", "@@", "zz"}
	var parts []api.Part
	for _, kind := range []int{0, 1, 2, 3, 4, -1, math.MaxInt, math.MinInt} {
		for _, s := range texts {
			for _, op := range []string{"", "#", ":-", ":=", ":+", ":", "x", "\xff"} {
				p := api.Part{Kind: kind, Text: s, Op: op}
				parts = append(parts, p, in(p))
				p.Word = []api.Part{{}, lit(""), {Kind: 7}, param("", ""), param("@", ":=")}
				parts = append(parts, p, in(p))
			}
		}
	}
	unordered := api.Env{Vars: []api.Binding{{Name: "z"}, {Name: "a", Value: "1"}, {Name: "z", Value: "2"}}, Args: []string{"\xff"}, Funs: []api.Fun{{Name: "b", Node: -1}, {Name: "a"}}}
	for _, p := range parts {
		for _, e := range []api.Env{{}, known(), unordered} {
			j := with(of(p), of(p, p)).by(e)
			was := clone(j.handed())
			a, b := j.ask(), j.ask()
			if !a.same(b) || !alike(was, j.handed()) {
				t.Errorf("%s: %s, %s", told(j), told(a), told(b))
			}
			for i, err := range a.Errs {
				if err != api.OK && !same(a.Envs[i], e) {
					t.Errorf("%s: %s", told(j), told(a))
				}
			}
		}
	}
}

func TestDeepWordsEnd(t *testing.T) {
	const depth = 1 << 16
	for _, op := range []string{":-", ":=", ":+"} {
		l := []api.Part{lit("x")}
		whose := "z"
		if op == ":+" {
			whose = "a"
		}
		for range depth {
			l = []api.Part{param(whose, op, l...)}
		}
		j := with(of(l...))
		if s, _, err := word.Text(j.words[0], j.env, j.status); s != "x" || err != api.OK {
			t.Error(op, s, err)
		}
		if l, _, err := word.Fields(j.words, j.env, j.status, j.files); !slices.Equal(l, []string{"x"}) || err != api.OK {
			t.Error(op, l, err)
		}
	}
}

func TestLongWordsEnd(t *testing.T) {
	const size = 200000
	l := slices.Repeat([]api.Part{lit("a"), in(param("z", "")), param("e", ""), param("z", ":-", lit("b"))}, size)
	j := with(of(l...))
	if runs, _, err := word.Runs(j.words[0], j.env, j.status); len(runs) != 4*size || err != api.OK {
		t.Error(len(runs), err)
	}
	j.isTooLong(t)
	j = with(slices.Repeat(words(`$z`), size)...)
	if l, _, err := word.Fields(j.words, j.env, j.status, j.files); len(l) != 0 || err != api.OK {
		t.Error(len(l), err)
	}
	j = with(one(`$@`)).args(slices.Repeat([]string{""}, size)...)
	if l, _, err := word.Fields(j.words, j.env, j.status, j.files); len(l) != 0 || err != api.OK {
		t.Error(len(l), err)
	}
	j.isTooLong(t)
}

// isTooLong holds that the Text of a job's one word is too long; the model is not asked, because it is slow.
func (j job) isTooLong(t *testing.T) {
	t.Helper()
	if s, _, err := word.Text(j.words[0], j.env, j.status); s != "" || err != api.ErrLimit {
		t.Error(len(s), err)
	}
}

// FuzzWords holds all words of a text against the model.
func FuzzWords(f *testing.F) {
	f.Add(`a'b'$x"$b" ${z:=q r}$z "${y:-$@}" $((n+1))`, "a b", " q ", 7)
	f.Add(`${a:+${z:=*}} "$z" $z [a-c]? ${#v}`, "\xff\u00e9", "*", 0)
	f.Fuzz(func(t *testing.T, s, v, arg string, status int) {
		l, _, err := lex.Tokens(s)
		if err != api.OK {
			return
		}
		j := with().set("v", v).args(arg, v, "")
		j.status = status
		j.files = append(j.files, v, arg)
		for _, k := range l {
			if k.Kind == api.TWord && tree.Word(k.Word) {
				j.words = append(j.words, k.Word)
			}
		}
		j.check(t)
	})
}

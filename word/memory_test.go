package word_test

import (
	"reflect"
	"slices"
	"strings"
	"sync"
	"testing"

	"lazarus/api"
	"lazarus/split"
	"lazarus/word"
)

// someJobs have all that words may be made of, each Op, what errs, and what sets.
func someJobs() []job {
	var l []job
	for _, s := range []string{
		``, `a`, `'a b' c`, `$a "$b" $z`, `$@ "$@"`, `x"$@"y $# $? $1 $9`, `${#u} $((n+1))`, `${z:-a'b'$@} "${z:-a'b'$@}"`, `${a:+$b'c'} "${a:+${b:+x y}}"`,
		`${z:=q r}`, `${z:=$@}$z "$z"`, `${e:=1}${y:=2}${z:=3} $e$y$z`, `${z:=${y:=x}} ${y:-q}`, `"${z:-${z:=r s}}"`, `* ?b '*' $g`, `[a-c]* x*`, `${z:=*} $z`,
		`${z:=1} $((1/0))`, `${z:=1}$((1+))`, `${y:=1} ${z:=$v$v}`, `$v$v`, `${z:=1}"$v$v"`, `${a:=q} ${1:-w}`, `""`, `${z:-} "${z:+x}"`,
	} {
		j := with(words(s)...).set("v", short(api.MaxStr/2+1))
		l = append(l, j, j.args(), j.args("", ""))
		j.files = nil
		l = append(l, j)
	}
	return l
}

// roomy is a list with spare room that has something in it, too.
func roomy[T any](l []T, spare ...T) []T { return slices.Concat(l, spare)[:len(l)] }

// roomyParts are parts with spare room in all lists.
func roomyParts(l []api.Part) []api.Part {
	l = roomy(l, lit("spare"), param("z", ":=", lit("spare")))
	for i := range l {
		l[i].Word = roomyParts(l[i].Word)
	}
	return l
}

// roomy is the same job with spare room in all lists.
func (j job) roomy() job {
	j.words = roomy(j.words, of(lit("spare")))
	for i := range j.words {
		j.words[i].Parts = roomyParts(j.words[i].Parts)
	}
	j.env.Vars = roomy(j.env.Vars, api.Binding{Name: "zz", Value: "spare"}, api.Binding{Name: "zzz", Value: "spare"})
	j.env.Args = roomy(j.env.Args, "spare", "more")
	j.env.Funs = roomy(j.env.Funs, api.Fun{Name: "zz", Node: 9}, api.Fun{Name: "zzz", Node: 9})
	j.files = roomy(j.files, "spare", "more")
	return j
}

// clone is all of a thing, spare room too, in memory of its own.
func clone[T any](x T) T { return cloned(reflect.ValueOf(x)).Interface().(T) }

func cloned(v reflect.Value) reflect.Value {
	to := reflect.New(v.Type()).Elem()
	switch v.Kind() {
	case reflect.Struct:
		for i := range v.NumField() {
			to.Field(i).Set(cloned(v.Field(i)))
		}
	case reflect.Slice:
		if v.IsNil() {
			return to
		}
		to = reflect.MakeSlice(v.Type(), v.Cap(), v.Cap())
		for i := range v.Cap() {
			to.Index(i).Set(cloned(v.Slice(0, v.Cap()).Index(i)))
		}
		to = to.Slice(0, v.Len())
	default:
		to.Set(v)
	}
	return to
}

// spoil writes over all lists of a thing, spare room too.
func spoil[T any](x T) { spoilt(reflect.ValueOf(&x).Elem()) }

func spoilt(v reflect.Value) {
	switch v.Kind() {
	case reflect.Struct:
		for i := range v.NumField() {
			spoilt(v.Field(i))
		}
	case reflect.Slice:
		whole := v.Slice(0, v.Cap())
		for i := range v.Cap() {
			spoilt(whole.Index(i))
			whole.Index(i).SetZero()
		}
	case reflect.String:
		v.SetString("spoilt")
	}
}

// handed is what a job hands in, where reflection may look at it.
type handed struct {
	Words []api.Word
	Env   api.Env
	Files []string
}

func (j job) handed() handed { return handed{j.words, j.env, j.files} }

// alike holds two against each other, spare room too.
func alike[T any](a, b T) bool {
	return reflect.DeepEqual(whole(reflect.ValueOf(a)).Interface(), whole(reflect.ValueOf(b)).Interface())
}

// whole is a thing whose lists have all of their spare room.
func whole(v reflect.Value) reflect.Value {
	v = cloned(v)
	var grow func(v reflect.Value)
	grow = func(v reflect.Value) {
		switch v.Kind() {
		case reflect.Struct:
			for i := range v.NumField() {
				grow(v.Field(i))
			}
		case reflect.Slice:
			v.Set(v.Slice(0, v.Cap()))
			for i := range v.Len() {
				grow(v.Index(i))
			}
		}
	}
	to := reflect.New(v.Type()).Elem()
	to.Set(v)
	grow(to)
	return to
}

// answers are all that the calls of a job answer.
type answers struct {
	Fields   []string
	Runs     [][]split.Run
	Patterns [][]api.Char
	Texts    []string
	Envs     []api.Env
	Errs     []api.Errno
}

// ask makes all calls of a job.
func (j job) ask() answers {
	var a answers
	took := func(e api.Env, err api.Errno) {
		a.Envs, a.Errs = append(a.Envs, e), append(a.Errs, err)
	}
	l, e, err := word.Fields(j.words, j.env, j.status, j.files)
	a.Fields = l
	took(e, err)
	for _, w := range j.words {
		l, e, err := word.Runs(w, j.env, j.status)
		a.Runs = append(a.Runs, l)
		took(e, err)
		s, e, err := word.Text(w, j.env, j.status)
		a.Texts = append(a.Texts, s)
		took(e, err)
		p, e, err := word.Pattern(w, j.env, j.status)
		a.Patterns = append(a.Patterns, p)
		took(e, err)
	}
	return a
}

// same holds answers against others, without spare room.
func (a answers) same(b answers) bool {
	return slices.Equal(a.Fields, b.Fields) && slices.EqualFunc(a.Runs, b.Runs, slices.Equal) && slices.EqualFunc(a.Patterns, b.Patterns, slices.Equal) && slices.Equal(a.Texts, b.Texts) && slices.EqualFunc(a.Envs, b.Envs, same) && slices.Equal(a.Errs, b.Errs)
}

func TestWhatIsHandedInStays(t *testing.T) {
	for _, j := range someJobs() {
		j = j.roomy()
		was := clone(j.handed())
		if !alike(was, j.handed()) {
			t.Fatal(told(was))
		}
		got := j.ask()
		if !alike(was, j.handed()) {
			t.Errorf("%s became %s", told(was), told(j.handed()))
		}
		// Nor does a change of what was answered change it.
		spoil(got)
		if !alike(was, j.handed()) {
			t.Errorf("%s became %s", told(was), told(j.handed()))
		}
	}
}

func TestSpareRoomIsNotLookedAt(t *testing.T) {
	for _, j := range someJobs() {
		r := j.roomy()
		if got, want := r.ask(), j.ask(); !got.same(want) {
			t.Errorf("%s: %s; want %s", told(j), told(got), told(want))
		}
		r.check(t)
	}
}

func TestWhatWasHandedInDoesNotChangeAnAnswer(t *testing.T) {
	for _, j := range someJobs() {
		j = j.roomy()
		got := j.ask()
		was := clone(got)
		spoil(j.handed())
		if !got.same(was) {
			t.Errorf("%s became %s", told(was), told(got))
		}
	}
}

func TestNoTwoAnswersShareAnything(t *testing.T) {
	for _, j := range someJobs() {
		a, b := j.ask(), j.ask()
		was := clone(b)
		spoil(a)
		if !b.same(was) || !j.ask().same(was) {
			t.Errorf("%s became %s", told(was), told(b))
		}
		// Nor do they if one was handed what another one answered.
		j.env = b.Envs[0]
		c := j.ask()
		made := clone(c)
		spoil(b)
		if !c.same(made) {
			t.Errorf("%s became %s", told(made), told(c))
		}
	}
}

// Of one answer each list in turn is written over, spare room too: no other one changes.
func TestNoTwoListsOfOneAnswerShareAnything(t *testing.T) {
	for _, j := range someJobs() {
		for i := range 3 * len(j.ask().Envs) {
			a := j.ask()
			was := clone(a)
			k := i / 3
			e, w := &a.Envs[k], &was.Envs[k]
			switch i % 3 {
			case 0:
				spoil(e.Vars)
				e.Vars, w.Vars = nil, nil
			case 1:
				spoil(e.Args)
				e.Args, w.Args = nil, nil
			case 2:
				spoil(e.Funs)
				e.Funs, w.Funs = nil, nil
			}
			if !a.same(was) {
				t.Errorf("%d: %s became %s", i, told(was), told(a))
			}
		}
	}
}

func TestNilAndEmptyAreTheSame(t *testing.T) {
	for _, s := range []string{``, `a`, `$a`, `$@`, `"$@"`, `$#`, `${z:-}`, `"${z:-}"`, `*`, `${z:=a}$z`} {
		want := job{words: words(s)}.ask()
		for _, j := range []job{
			{words: words(s), env: api.Env{Vars: []api.Binding{}, Args: []string{}, Funs: []api.Fun{}}, files: []string{}},
			{words: words(s), env: api.Env{Vars: known().Vars[:0], Args: known().Args[:0], Funs: known().Funs[:0]}, files: someFiles()[:0]},
		} {
			for i := range j.words {
				for k, p := range j.words[i].Parts {
					if len(p.Word) == 0 {
						j.words[i].Parts[k].Word = []api.Part{}
					}
				}
			}
			if got := j.ask(); !got.same(want) {
				t.Errorf("%s: %s; want %s", told(j), told(got), told(want))
			}
			j.check(t)
		}
	}
}

func TestAnAnswerStays(t *testing.T) {
	var all, was []answers
	for _, j := range someJobs() {
		a := j.ask()
		all, was = append(all, a), append(was, clone(a))
	}
	for _, j := range someJobs() {
		j.ask()
	}
	for i := range all {
		if !all[i].same(was[i]) {
			t.Errorf("%s became %s", told(was[i]), told(all[i]))
		}
	}
}

func TestCallsSideBySide(t *testing.T) {
	jobs := someJobs()
	var want []answers
	for _, j := range jobs {
		want = append(want, j.ask())
	}
	var side sync.WaitGroup
	for range 8 {
		side.Go(func() {
			for i, j := range jobs {
				got := j.ask()
				if !got.same(want[i]) {
					t.Errorf("%s: %s; want %s", told(j), told(got), told(want[i]))
				}
				spoil(got)
			}
		})
	}
	side.Wait()
}

// An Env without a change is as it was, functions too.
func TestTheEnvIsAnsweredWhole(t *testing.T) {
	for _, s := range []string{`a`, `$a`, `$@`, `${z:-x}`, `*`, `$((n))`} {
		for _, e := range with(one(s)).ask().Envs {
			if !same(e, known()) {
				t.Errorf("%s: %s", s, told(e))
			}
		}
	}
	_, e, _ := word.Runs(one(`${z:=x}`), known(), 0)
	if want := known(api.Binding{Name: "z", Value: "x"}); !same(e, want) || len(e.Funs) != 2 || strings.Join(e.Args, ",") != "one,,t w" {
		t.Error(told(e))
	}
}

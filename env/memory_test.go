package env_test

import (
	"math"
	"slices"
	"sync"
	"testing"

	"lazarus/api"
	"lazarus/env"
)

// roomy is an Env whose lists have spare room with something in it, and that Env with the room.
func roomy(size int) (api.Env, api.Env) {
	all := api.Env{Vars: vars(inOrder[:size+3]...), Args: slices.Clone(inOrder[5 : size+8]), Funs: funs(inOrder[:size+3]...)}
	return api.Env{Vars: all.Vars[:size], Args: all.Args[:size], Funs: all.Funs[:size]}, all
}

// changes are what answers an Env, at each place, of names that are there and such as are not.
func changes(size int) []func(e api.Env) api.Env {
	l := []func(e api.Env) api.Env{}
	for _, name := range slices.Concat(inOrder[:size+3], strange) {
		l = append(l,
			func(e api.Env) api.Env { return env.Set(e, name, "new") },
			func(e api.Env) api.Env { return env.Unset(e, name) },
			func(e api.Env) api.Env { return env.Define(e, name, 99) },
		)
	}
	return l
}

// spoil writes over all of an Env's lists, and their spare room.
func spoil(e api.Env) {
	for i := range e.Vars[:cap(e.Vars)] {
		e.Vars[:cap(e.Vars)][i] = api.Binding{Name: "spoilt", Value: "v"}
	}
	for i := range e.Args[:cap(e.Args)] {
		e.Args[:cap(e.Args)][i] = "spoilt"
	}
	for i := range e.Funs[:cap(e.Funs)] {
		e.Funs[:cap(e.Funs)][i] = api.Fun{Name: "spoilt", Node: 77}
	}
}

func TestWhatIsHandedInStays(t *testing.T) {
	for size := range 8 {
		e, all := roomy(size)
		was, begun := clone(all), clone(e)
		for i, change := range changes(size) {
			change(e)
			if !same(all, was) || !same(e, begun) {
				t.Fatal(size, i, told(all))
			}
		}
		for i, name := range inOrder {
			env.Get(e, name)
			env.Fun(e, name)
			env.Arg(e, i-2)
		}
		if !env.Is(e) || !env.Same(e, begun) || !same(all, was) {
			t.Fatal(size, told(all))
		}
	}
}

func TestSpareRoomIsNoEntry(t *testing.T) {
	for size := range 8 {
		e, all := roomy(size)
		for i := range 3 {
			value(t, e, inOrder[size+i], "", false)
			node(t, e, inOrder[size+i], 0, false)
			arg(t, e, size+1+i, "", false)
			arg(t, all, size+1+i, all.Args[size+i], true)
		}
		want(t, env.Unset(e, inOrder[size]), clone(e))
		all.Vars[size].Name, all.Funs[size].Name = "", ""
		if !env.Is(e) || !env.Same(e, clone(e)) || env.Same(e, all) || size > 0 && env.Is(all) {
			t.Error(size)
		}
	}
}

func TestNilIsAnEmptyList(t *testing.T) {
	kinds := []api.Env{
		{},
		{Vars: []api.Binding{}, Args: []string{}, Funs: []api.Fun{}},
		{Vars: make([]api.Binding, 0, 4), Args: make([]string, 0, 4), Funs: make([]api.Fun, 0, 4)},
		{Vars: vars("a")[:0], Args: []string{"a"}[:0], Funs: funs("a")[:0]},
		{Vars: []api.Binding{}},
		{Args: []string{}},
		{Funs: []api.Fun{}},
	}
	for _, a := range kinds {
		for _, b := range kinds {
			if !env.Same(a, b) || !env.Is(a) {
				t.Error(told(a), told(b))
			}
			b.Args = []string{"x"}
			if env.Same(a, b) {
				t.Error(told(a), told(b))
			}
		}
		value(t, a, "a", "", false)
		node(t, a, "a", 0, false)
		arg(t, a, 1, "", false)
		want(t, env.Set(a, "a", "1"), api.Env{Vars: []api.Binding{{Name: "a", Value: "1"}}})
		want(t, env.Unset(a, "a"), api.Env{})
		want(t, env.Define(a, "a", 1), api.Env{Funs: []api.Fun{{Name: "a", Node: 1}}})
	}
	// The last entry that goes leaves what is empty.
	want(t, env.Unset(api.Env{Vars: vars("a")}, "a"), api.Env{})
}

func TestAnAnswerDoesNotChangeWhatWasHandedIn(t *testing.T) {
	for size := range 8 {
		e, all := roomy(size)
		was := clone(all)
		for i, change := range changes(size) {
			spoil(change(e))
			if !same(all, was) {
				t.Fatal(size, i, told(all))
			}
		}
	}
}

func TestWhatWasHandedInDoesNotChangeAnAnswer(t *testing.T) {
	for size := range 8 {
		for i, change := range changes(size) {
			e, all := roomy(size)
			got := change(e)
			was := clone(got)
			spoil(all)
			if !same(got, was) {
				t.Fatal(size, i, told(got))
			}
		}
	}
}

func TestAnswersShareNothing(t *testing.T) {
	for size := range 5 {
		e, _ := roomy(size)
		for i, one := range changes(size) {
			for j, other := range changes(size) {
				a, b := one(e), other(e)
				was := clone(b)
				spoil(a)
				if !same(b, was) || !same(other(e), was) {
					t.Fatal(size, i, j, told(b))
				}
				// Nor does one that was made of another.
				a = one(b)
				made := clone(a)
				spoil(b)
				if !same(a, made) {
					t.Fatal(size, i, j, told(a))
				}
			}
		}
	}
}

func TestAnAnswerStays(t *testing.T) {
	e := api.Env{Args: []string{"x"}}
	var all, was []api.Env
	for i, name := range slices.Concat(strange, inOrder, strange) {
		e = env.Define(env.Set(e, name, "v"), name, i)
		all, was = append(all, e), append(was, clone(e))
		e = env.Unset(e, strange[i%len(strange)])
		all, was = append(all, e), append(was, clone(e))
	}
	for i := range all {
		if !same(all[i], was[i]) {
			t.Error(i, told(all[i]))
		}
	}
}

// Of what is no Env nothing is said but what holds everywhere.
func TestOfWhatIsNoneCallsEnd(t *testing.T) {
	names := []string{"", "a", "aa", "b", "\xff"}
	n := 0
	rows(names, 4, func(row []string) {
		e := api.Env{Vars: vars(row...), Args: row, Funs: funs(row...)}
		was := clone(e)
		for _, name := range names {
			s, ok := env.Get(e, name)
			if again, there := env.Get(was, name); s != again || ok != there || !ok && s != "" {
				t.Error(told(e), name, s, ok)
			}
			k, ok := env.Fun(e, name)
			if again, there := env.Fun(was, name); k != again || ok != there || !ok && k != 0 {
				t.Error(told(e), name, k, ok)
			}
			spoil(env.Set(e, name, "new"))
			spoil(env.Unset(e, name))
			spoil(env.Define(e, name, 99))
			if !same(e, was) || !env.Same(e, was) {
				t.Error(told(e), name)
			}
		}
		for _, i := range []int{math.MinInt, -1, 0, len(row), len(row) + 1, math.MaxInt} {
			arg(t, e, i, at(row, i), 0 < i && i <= len(row))
		}
		n++
	})
	if n != 781 {
		t.Error(n)
	}
}

// at is the argument i, empty if there is none.
func at(row []string, i int) string {
	for k, s := range row {
		if k+1 == i {
			return s
		}
	}
	return ""
}

func TestCallsSideBySide(t *testing.T) {
	e, _ := roomy(7)
	l := changes(7)
	var made []api.Env
	for _, change := range l {
		made = append(made, clone(change(e)))
	}
	var all sync.WaitGroup
	for range 8 {
		all.Go(func() {
			for range 50 {
				for i, change := range l {
					got := change(e)
					if !same(got, made[i]) || !env.Same(got, made[i]) || !env.Is(e) {
						t.Error(i, told(got))
					}
					spoil(got)
				}
				for i, name := range inOrder {
					s, ok := env.Get(e, name)
					n, there := env.Fun(e, name)
					a, is := env.Arg(e, i)
					if ok != (i < 7) || there != (i < 7) || ok && (s != e.Vars[i].Value || n != e.Funs[i].Node) || is != (0 < i && i <= 7) || is && a != e.Args[i-1] {
						t.Error(i, s, n, a)
					}
				}
			}
		})
	}
	all.Wait()
}

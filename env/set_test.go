package env_test

import (
	"fmt"
	"math"
	"slices"
	"strings"
	"testing"

	"lazarus/api"
	"lazarus/env"
)

func TestTheChaptersExample(t *testing.T) {
	e := env.Set(env.Set(api.Env{}, "b", ""), "a", "")
	want(t, e, api.Env{Vars: []api.Binding{{Name: "a"}, {Name: "b"}}})
	e = env.Set(env.Set(api.Env{}, "b", "1"), "a", "2")
	want(t, e, api.Env{Vars: []api.Binding{{Name: "a", Value: "2"}, {Name: "b", Value: "1"}}})
}

func TestSetInAnEmptyOne(t *testing.T) {
	for _, name := range inOrder {
		for _, s := range []string{"", "1", name, "a=b", "\x00\xff", strings.Repeat("v", 5000)} {
			want(t, env.Set(api.Env{}, name, s), api.Env{Vars: []api.Binding{{Name: name, Value: s}}})
		}
		for _, n := range []int{0, 1, -1, math.MinInt, math.MaxInt} {
			want(t, env.Define(api.Env{}, name, n), api.Env{Funs: []api.Fun{{Name: name, Node: n}}})
		}
		want(t, env.Unset(api.Env{}, name), api.Env{})
	}
}

// args and the lists beside stay in all that follows.
var args = []string{"y", "", "x", "y"}

func TestSetWhatIsThere(t *testing.T) {
	for size := range len(inOrder) {
		names := inOrder[:size]
		e := api.Env{Vars: vars(names...), Args: args, Funs: funs("a", "f")}
		for i, name := range names {
			for _, s := range []string{"", "new", e.Vars[i].Value, name} {
				w := clone(e)
				w.Vars[i].Value = s
				want(t, env.Set(e, name, s), w)
			}
		}
	}
}

func TestSetWhatIsNotThere(t *testing.T) {
	for size := 1; size < len(inOrder); size++ {
		for i, name := range inOrder[:size] {
			names := slices.Delete(slices.Clone(inOrder[:size]), i, i+1)
			e := api.Env{Vars: vars(names...), Args: args, Funs: funs(inOrder...)}
			for _, s := range []string{"", "new"} {
				w := clone(e)
				w.Vars = slices.Insert(w.Vars, i, api.Binding{Name: name, Value: s})
				want(t, env.Set(e, name, s), w)
			}
		}
	}
}

func TestUnset(t *testing.T) {
	for size := 1; size < len(inOrder); size++ {
		e := api.Env{Vars: vars(inOrder[:size]...), Args: args, Funs: funs(inOrder...)}
		for i, name := range inOrder[:size] {
			w := clone(e)
			w.Vars = slices.Delete(w.Vars, i, i+1)
			got := env.Unset(e, name)
			want(t, got, w)
			want(t, env.Unset(got, name), w)
			value(t, got, name, "", false)
		}
		for _, name := range slices.Concat(inOrder[size:], strange) {
			want(t, env.Unset(e, name), e)
		}
	}
	// What is a function alone stays one.
	e := api.Env{Vars: vars("b"), Args: args, Funs: funs("a", "b")}
	want(t, env.Unset(e, "a"), e)
	want(t, env.Unset(e, "b"), api.Env{Args: args, Funs: funs("a", "b")})
	want(t, env.Unset(e, "y"), e)
}

func TestDefineWhatIsThere(t *testing.T) {
	for size := range len(inOrder) {
		names := inOrder[:size]
		e := api.Env{Vars: vars(inOrder...), Args: args, Funs: funs(names...)}
		for i, name := range names {
			for _, n := range []int{0, 1, -1, e.Funs[i].Node, math.MinInt, math.MaxInt} {
				w := clone(e)
				w.Funs[i].Node = n
				want(t, env.Define(e, name, n), w)
			}
		}
	}
}

func TestDefineWhatIsNotThere(t *testing.T) {
	for size := 1; size < len(inOrder); size++ {
		for i, name := range inOrder[:size] {
			names := slices.Delete(slices.Clone(inOrder[:size]), i, i+1)
			e := api.Env{Vars: vars("a", "f"), Args: args, Funs: funs(names...)}
			for _, n := range []int{0, -1, 9} {
				w := clone(e)
				w.Funs = slices.Insert(w.Funs, i, api.Fun{Name: name, Node: n})
				want(t, env.Define(e, name, n), w)
			}
		}
	}
}

func TestOneNameInBoth(t *testing.T) {
	e := env.Define(env.Set(api.Env{Args: args}, "a", "1"), "a", 4)
	value(t, e, "a", "1", true)
	node(t, e, "a", 4, true)
	e = env.Set(e, "a", "2")
	value(t, e, "a", "2", true)
	node(t, e, "a", 4, true)
	e = env.Define(e, "a", 5)
	value(t, e, "a", "2", true)
	node(t, e, "a", 5, true)
	e = env.Unset(e, "a")
	value(t, e, "a", "", false)
	node(t, e, "a", 5, true)
	want(t, e, api.Env{Args: args, Funs: []api.Fun{{Name: "a", Node: 5}}})
}

func TestWhichIsFirstDoesNotMatter(t *testing.T) {
	start := api.Env{Vars: vars("B", "a\x00", "b", "x"), Args: args, Funs: funs("B", "a\x00", "b", "x")}
	for _, a := range inOrder {
		for _, b := range inOrder {
			if a == b {
				continue
			}
			want(t, env.Set(env.Set(start, a, "1"), b, "2"), env.Set(env.Set(start, b, "2"), a, "1"))
			want(t, env.Define(env.Define(start, a, 1), b, 2), env.Define(env.Define(start, b, 2), a, 1))
			want(t, env.Unset(env.Set(start, a, "1"), b), env.Set(env.Unset(start, b), a, "1"))
		}
	}
}

func TestManyNames(t *testing.T) {
	var names []string
	for i := range 2000 {
		names = append(names, fmt.Sprintf("n%d", i))
	}
	up, down := api.Env{Args: args}, api.Env{Args: args}
	for i, name := range names {
		up = env.Define(env.Set(up, name, name+"!"), name, i)
	}
	for i, name := range slices.Backward(names) {
		down = env.Set(env.Define(down, name, i), name, name+"!")
	}
	want(t, up, down)
	for i, name := range names {
		value(t, up, name, name+"!", true)
		node(t, up, name, i, true)
		value(t, up, name+"a", "", false)
	}
	for i, name := range names {
		if i%3 != 0 {
			up = env.Unset(up, name)
		}
	}
	for i, name := range names {
		if i%3 == 0 {
			value(t, up, name, name+"!", true)
		} else {
			value(t, up, name, "", false)
		}
	}
	if len(up.Vars) != 667 || !slices.Equal(up.Funs, down.Funs) || !slices.Equal(up.Args, args) || !env.Is(up) {
		t.Error(len(up.Vars))
	}
}

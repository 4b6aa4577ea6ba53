package env_test

import (
	"math"
	"testing"

	"lazarus/api"
	"lazarus/env"
)

func TestGetAndFun(t *testing.T) {
	e := api.Env{
		Vars: []api.Binding{{Name: "a", Value: "1"}, {Name: "ab"}, {Name: "c", Value: "a=b"}, {Name: "x", Value: "\x00\xff"}},
		Args: []string{"b", "d"},
		Funs: []api.Fun{{Name: "b", Node: 3}, {Name: "c", Node: 0}, {Name: "ca", Node: -1}, {Name: "y", Node: math.MinInt}, {Name: "z", Node: math.MaxInt}},
	}
	value(t, e, "a", "1", true)
	value(t, e, "ab", "", true)
	value(t, e, "c", "a=b", true)
	value(t, e, "x", "\x00\xff", true)
	for _, name := range []string{"", "A", "a\x00", "aa", "abc", "b", "ca", "d", "y", "x\x00", "z", "a=1", "\xff"} {
		value(t, e, name, "", false)
	}
	node(t, e, "b", 3, true)
	node(t, e, "c", 0, true)
	node(t, e, "ca", -1, true)
	node(t, e, "y", math.MinInt, true)
	node(t, e, "z", math.MaxInt, true)
	for _, name := range []string{"", "B", "a", "ab", "bb", "c\x00", "cab", "d", "x", "zz", "\xff"} {
		node(t, e, name, 0, false)
	}
}

func TestGetOfNone(t *testing.T) {
	for _, e := range []api.Env{{}, {Args: []string{"a", ""}}, {Vars: []api.Binding{}, Args: []string{}, Funs: []api.Fun{}}} {
		for _, name := range inOrder {
			value(t, e, name, "", false)
			node(t, e, name, 0, false)
		}
	}
	// The names of one list are not those of the other one.
	value(t, api.Env{Funs: funs(inOrder...)}, "a", "", false)
	node(t, api.Env{Vars: vars(inOrder...)}, "a", 0, false)
}

func TestGetAtEachPlace(t *testing.T) {
	for size := range len(inOrder) {
		e := api.Env{Vars: vars(inOrder[:size]...), Funs: funs(inOrder[:size]...)}
		for i, name := range inOrder {
			if i < size {
				value(t, e, name, e.Vars[i].Value, true)
				node(t, e, name, e.Funs[i].Node, true)
			} else {
				value(t, e, name, "", false)
				node(t, e, name, 0, false)
			}
		}
		for _, name := range strange {
			value(t, e, name, "", false)
			node(t, e, name, 0, false)
		}
	}
}

func TestGetBetweenTwo(t *testing.T) {
	var there []string
	for i := 1; i < len(inOrder); i += 2 {
		there = append(there, inOrder[i])
	}
	e := api.Env{Vars: vars(there...), Funs: funs(there...)}
	for i, name := range inOrder {
		if i%2 == 1 {
			value(t, e, name, e.Vars[i/2].Value, true)
			node(t, e, name, e.Funs[i/2].Node, true)
		} else {
			value(t, e, name, "", false)
			node(t, e, name, 0, false)
		}
	}
}

func TestArg(t *testing.T) {
	e := api.Env{Vars: vars("1", "2"), Args: []string{"x", "", "z"}, Funs: funs("1", "2")}
	arg(t, e, 1, "x", true)
	arg(t, e, 2, "", true)
	arg(t, e, 3, "z", true)
	for _, i := range []int{0, -1, -2, -3, -4, 4, 5, math.MinInt, math.MinInt + 1, math.MaxInt, math.MaxInt - 1, 1 << 32, 1<<32 + 1, 1<<32 + 2, -1 << 32, 1<<16 + 1, 256 + 1} {
		arg(t, e, i, "", false)
	}
	arg(t, api.Env{Args: []string{""}}, 1, "", true)
	arg(t, api.Env{Args: []string{""}}, 2, "", false)
	arg(t, api.Env{Args: []string{"b", "a", "a"}}, 1, "b", true)
	for _, e := range []api.Env{{}, {Vars: vars("a"), Funs: funs("a")}, {Args: []string{}}} {
		for _, i := range []int{-1, 0, 1, 2, math.MinInt, math.MaxInt} {
			arg(t, e, i, "", false)
		}
	}
}

func TestArgOfEachLength(t *testing.T) {
	for size := range 70 {
		e := api.Env{Args: inOrder[:min(size, len(inOrder))]}
		for i := -80; i <= 80; i++ {
			if 1 <= i && i <= len(e.Args) {
				arg(t, e, i, inOrder[i-1], true)
			} else {
				arg(t, e, i, "", false)
			}
		}
	}
}

func TestSame(t *testing.T) {
	one := api.Env{Vars: vars("a", "b", "c"), Args: []string{"x", "", "z"}, Funs: funs("f", "g", "h")}
	changes := []func(e *api.Env){
		func(e *api.Env) { e.Vars = nil },
		func(e *api.Env) { e.Args = nil },
		func(e *api.Env) { e.Funs = nil },
		func(e *api.Env) { e.Vars = e.Vars[:2] },
		func(e *api.Env) { e.Args = e.Args[:2] },
		func(e *api.Env) { e.Funs = e.Funs[:2] },
		func(e *api.Env) { e.Vars = e.Vars[1:] },
		func(e *api.Env) { e.Args = e.Args[1:] },
		func(e *api.Env) { e.Funs = e.Funs[1:] },
		func(e *api.Env) { e.Vars = append(e.Vars, api.Binding{}) },
		func(e *api.Env) { e.Args = append(e.Args, "") },
		func(e *api.Env) { e.Funs = append(e.Funs, api.Fun{}) },
		func(e *api.Env) { e.Vars[0], e.Vars[1] = e.Vars[1], e.Vars[0] },
		func(e *api.Env) { e.Args[1], e.Args[2] = e.Args[2], e.Args[1] },
		func(e *api.Env) { e.Funs[0], e.Funs[2] = e.Funs[2], e.Funs[0] },
		func(e *api.Env) { e.Vars[0].Name = "A" },
		func(e *api.Env) { e.Vars[1].Name = "b\x00" },
		func(e *api.Env) { e.Vars[2].Name = "" },
		func(e *api.Env) { e.Vars[0].Value += "a" },
		func(e *api.Env) { e.Vars[1].Value = "" },
		func(e *api.Env) { e.Vars[2].Value = "\x00" },
		func(e *api.Env) { e.Args[0] = "X" },
		func(e *api.Env) { e.Args[1] = " " },
		func(e *api.Env) { e.Args[2] = "z\x00" },
		func(e *api.Env) { e.Args[2] = "" },
		func(e *api.Env) { e.Funs[0].Name = "ff" },
		func(e *api.Env) { e.Funs[1].Name = "" },
		func(e *api.Env) { e.Funs[2].Name = "H" },
		func(e *api.Env) { e.Funs[0].Node++ },
		func(e *api.Env) { e.Funs[1].Node = -1 },
		func(e *api.Env) { e.Funs[2].Node += 1 << 32 },
	}
	var all []api.Env
	for _, change := range changes {
		e := clone(one)
		change(&e)
		if env.Same(one, e) || env.Same(e, one) || !env.Same(e, e) || !env.Same(e, clone(e)) {
			t.Error(told(e))
		}
		all = append(all, e)
	}
	if !env.Same(one, clone(one)) {
		t.Error("its clone")
	}
	for i, a := range all {
		for j, b := range all {
			if env.Same(a, b) != (i == j) {
				t.Error(i, j)
			}
		}
	}
}

func TestSameOfPartsThatChangePlaces(t *testing.T) {
	all := []api.Env{
		{},
		{Vars: []api.Binding{{}}},
		{Args: []string{""}},
		{Funs: []api.Fun{{}}},
		{Vars: []api.Binding{{Name: "a"}}},
		{Vars: []api.Binding{{Value: "a"}}},
		{Vars: []api.Binding{{Name: "a", Value: "a"}}},
		{Vars: []api.Binding{{Name: "aa"}}},
		{Args: []string{"a"}},
		{Args: []string{"a", ""}},
		{Args: []string{"", "a"}},
		{Args: []string{"", ""}},
		{Funs: []api.Fun{{Name: "a"}}},
		{Vars: []api.Binding{{Name: "a"}}, Args: []string{"a"}},
		{Args: []string{"a"}, Funs: []api.Fun{{Name: "a"}}},
		// Of such as are none it is asked just so.
		{Vars: []api.Binding{{Name: "b"}, {Name: "a"}}},
		{Vars: []api.Binding{{Name: "a"}, {Name: "b"}}},
		{Vars: []api.Binding{{Name: "a"}, {Name: "a"}}},
		{Funs: []api.Fun{{Name: "b"}, {Name: "a"}}},
		{Funs: []api.Fun{{Name: "a"}, {Name: "b"}}},
		{Funs: []api.Fun{{Name: "a"}, {Name: "a"}}},
	}
	for i, a := range all {
		for j, b := range all {
			if env.Same(a, clone(b)) != (i == j) {
				t.Error(i, j)
			}
		}
	}
}

package env_test

import (
	"fmt"
	"slices"
	"testing"

	"lazarus/api"
	"lazarus/env"
)

// is holds what Is answers of these names, as those of Vars, of Funs and of both, with arguments and without.
func is(t *testing.T, want bool, names ...string) {
	t.Helper()
	v, f, args := vars(names...), funs(names...), []string{"b", "a", "b", ""}
	goodV, goodF := vars("a", "b"), funs("", "c")
	for i, e := range []api.Env{{Vars: v}, {Funs: f}, {Vars: v, Funs: f}, {Vars: v, Args: args}, {Args: args, Funs: f}, {Vars: v, Funs: goodF}, {Vars: goodV, Args: args, Funs: f}} {
		if env.Is(e) != want || isOne(e) != want {
			t.Errorf("%d: %s: %v", i, told(e), !want)
		}
	}
}

func TestTheNamesAreInOrder(t *testing.T) {
	for i, a := range inOrder {
		is(t, true, a)
		for j, b := range inOrder {
			is(t, i < j, a, b)
		}
	}
	is(t, true)
	is(t, true, inOrder...)
	is(t, true, strange...)
}

func TestIs(t *testing.T) {
	for _, names := range [][]string{
		{"a", "b"}, {"B", "a"}, {"Z", "_", "a"}, {"9", "A"}, {"a", "aa"}, {"", "\x00"}, {"x1", "x10", "x2"}, {"a\x00", "a\x01", "aa"}, {"z", "\u00e9"}, {"\x80", "\u00e9"}, {"\ufffd", "\U0001f600", "\xff"},
	} {
		is(t, true, names...)
		slices.Reverse(names)
		is(t, false, names...)
	}
	is(t, false, "", "")
	is(t, false, "a", "a")
	is(t, false, "a", "b", "a")
	is(t, false, "a", "b", "b")
	is(t, false, "a", "a", "b")
	is(t, false, "b", "a", "c")
	is(t, false, "a", "c", "b")
	is(t, false, "c", "a", "b")
}

func TestIsAtEachPlace(t *testing.T) {
	for size := 2; size < 40; size++ {
		for i := range size - 1 {
			names := slices.Clone(inOrder[:size])
			names[i], names[i+1] = names[i+1], names[i]
			is(t, false, names...)
			names = slices.Clone(inOrder[:size])
			names[i] = names[i+1]
			is(t, false, names...)
			names = slices.Clone(inOrder[:size])
			names[i+1] = names[i]
			is(t, false, names...)
			is(t, false, slices.Insert(slices.Clone(inOrder[:size]), i, inOrder[size-1])...)
		}
	}
}

func TestOfOneListAloneIsNone(t *testing.T) {
	v, f := vars("a", "b"), funs("a", "b")
	for i, e := range []api.Env{{Vars: vars("b", "a"), Funs: f}, {Vars: v, Funs: funs("b", "a")}, {Vars: vars("a", "a"), Funs: f}, {Vars: v, Funs: funs("b", "b")}} {
		if env.Is(e) {
			t.Error(i)
		}
	}
	// A name may be there once in each list, and what it has with it does not matter.
	for i, e := range []api.Env{
		{Vars: v, Funs: f},
		{Vars: vars("c", "d"), Funs: f},
		{Vars: []api.Binding{{Name: "a", Value: "z"}, {Name: "b", Value: "a"}}, Funs: []api.Fun{{Name: "a", Node: 3}, {Name: "b", Node: -3}}},
		{Vars: []api.Binding{{Name: "a", Value: "z"}, {Name: "b", Value: "z"}}, Funs: []api.Fun{{Name: "a", Node: 3}, {Name: "b", Node: 3}}},
		{Args: []string{"z", "a", "a"}},
		{},
	} {
		if !env.Is(e) {
			t.Error(i)
		}
	}
	for i, e := range []api.Env{{Vars: []api.Binding{{Name: "a", Value: "1"}, {Name: "a", Value: "2"}}}, {Funs: []api.Fun{{Name: "a", Node: 1}, {Name: "a", Node: 2}}}} {
		if env.Is(e) {
			t.Error(i)
		}
	}
}

func TestIsOfManyNames(t *testing.T) {
	var names []string
	for i := range 100000 {
		names = append(names, fmt.Sprintf("n%06d", i))
	}
	e := api.Env{Vars: vars(names...), Funs: funs(names...)}
	if !env.Is(e) {
		t.Error("in order")
	}
	for _, i := range []int{1, 50000, 99999} {
		was := e.Vars[i].Name
		e.Vars[i].Name = e.Vars[i-1].Name
		if env.Is(e) {
			t.Error("Vars", i)
		}
		e.Vars[i].Name = was
		e.Funs[i].Name = ""
		if env.Is(e) {
			t.Error("Funs", i)
		}
		e.Funs[i].Name = was
	}
}

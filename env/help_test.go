package env_test

import (
	"fmt"
	"slices"
	"strings"
	"testing"

	"lazarus/api"
	"lazarus/env"
)

// inOrder are names as their bytes order them: of some the letters, the halves of letters or the lengths would order them otherwise.
var inOrder = []string{
	"", "\x00", "\x00\x00", "\x00a", "\n", " ", "-", "0", "00", "10", "9", "A", "A\x00", "AA", "Aa", "B", "Z", "Za", "_", "_0", "_A", "__", "_a",
	"a", "a\x00", "a\x00b", "a0", "aA", "a_", "aa", "aaa", "aab", "ab", "a\u00e9", "a\xff", "b", "ba",
	strings.Repeat("n", 4000), strings.Repeat("n", 4000) + "a", strings.Repeat("n", 4000) + "b", strings.Repeat("n", 4001),
	"x", "x1", "x10", "x2", "z", "\x7f", "\x80", "\xc3", "\u00e9", "\u00e9a", "\u0416", "\u20ac", "\uff21", "\ufffd", "\U0001f600", "\xfe", "\xff", "\xff\x00", "\xff\xff",
}

// strange are names that no list of inOrder has.
var strange = []string{"\x01", "!", "01", "8", "9a", "@", "AB", "[", "_b", "`", "a\x00a", "aaA", "abc", "c", strings.Repeat("n", 3999), strings.Repeat("n", 4000) + "aa", "x11", "~", "\x81", "\u00e8", "\U0001f601", "\xff\x00\x00", "\xff\xff\xff"}

// vars are these names, each with a value of its own; the third has an empty one.
func vars(names ...string) []api.Binding {
	l := []api.Binding{}
	for i, name := range names {
		value := strings.Repeat("v", i%7) + name
		if i == 2 {
			value = ""
		}
		l = append(l, api.Binding{Name: name, Value: value})
	}
	return l
}

// funs are these names, each with a node of its own; the second has 0, the third less.
func funs(names ...string) []api.Fun {
	l := []api.Fun{}
	for i, name := range names {
		node := i + 5
		if i == 1 || i == 2 {
			node = 1 - i
		}
		l = append(l, api.Fun{Name: name, Node: node})
	}
	return l
}

// same holds an Env against another one, list by list: it asks nothing of the package.
func same(a, b api.Env) bool {
	return slices.Equal(a.Vars, b.Vars) && slices.Equal(a.Args, b.Args) && slices.Equal(a.Funs, b.Funs)
}

// clone is an Env of the same entries, in new lists without spare room.
func clone(e api.Env) api.Env {
	return api.Env{Vars: slices.Clip(slices.Clone(e.Vars)), Args: slices.Clip(slices.Clone(e.Args)), Funs: slices.Clip(slices.Clone(e.Funs))}
}

// told is an Env as a text that is not too long.
func told(e api.Env) string {
	s := fmt.Sprintf("vars %q args %q funs %v", e.Vars, e.Args, e.Funs)
	return s[:min(len(s), 400)]
}

// want holds that an answer is this Env, and that it is one.
func want(t *testing.T, got, want api.Env) {
	t.Helper()
	if !same(got, want) || !env.Same(got, want) || !env.Same(want, got) {
		t.Errorf("%s; want %s", told(got), told(want))
	}
	if !env.Is(got) {
		t.Errorf("%s is none", told(got))
	}
}

// value holds what Get answers.
func value(t *testing.T, e api.Env, name, want string, there bool) {
	t.Helper()
	if s, ok := env.Get(e, name); s != want || ok != there {
		t.Errorf("%.60q of %s: %.60q, %v; want %.60q, %v", name, told(e), s, ok, want, there)
	}
}

// node holds what Fun answers.
func node(t *testing.T, e api.Env, name string, want int, there bool) {
	t.Helper()
	if n, ok := env.Fun(e, name); n != want || ok != there {
		t.Errorf("%.60q of %s: %d, %v; want %d, %v", name, told(e), n, ok, want, there)
	}
}

// arg holds what Arg answers.
func arg(t *testing.T, e api.Env, i int, want string, there bool) {
	t.Helper()
	if s, ok := env.Arg(e, i); s != want || ok != there {
		t.Errorf("%d of %q: %q, %v; want %q, %v", i, e.Args, s, ok, want, there)
	}
}

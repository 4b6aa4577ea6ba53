package env_test

import (
	"fmt"
	"math/rand/v2"
	"slices"
	"testing"

	"lazarus/api"
	"lazarus/env"
)

// say calls what a saying asks for.
func say(e api.Env, x said) api.Env {
	switch x.what {
	case "set":
		return env.Set(e, x.name, x.value)
	case "unset":
		return env.Unset(e, x.name)
	}
	return env.Define(e, x.name, x.node)
}

// checkRow says all of a row, and holds what it comes to, and what is answered of these names, against the model.
func checkRow(t *testing.T, row model, names []string) api.Env {
	t.Helper()
	e := api.Env{Args: args}
	for _, x := range row {
		e = say(e, x)
	}
	checkNames(t, e, row, names)
	return e
}

// checkNames holds an Env and what is answered of these names against the model.
func checkNames(t *testing.T, e api.Env, m model, names []string) {
	t.Helper()
	want(t, e, m.env(args))
	for _, name := range names {
		s, there := m.get(name)
		value(t, e, name, s, there)
		n, there := m.fun(name)
		node(t, e, name, n, there)
	}
}

// sayings are all that may be said of these names with these values and nodes.
func sayings(names, values []string, nodes []int) []said {
	var l []said
	for _, name := range names {
		for _, s := range values {
			l = append(l, said{what: "set", name: name, value: s})
		}
		for _, n := range nodes {
			l = append(l, said{what: "define", name: name, node: n})
		}
		l = append(l, said{what: "unset", name: name})
	}
	return l
}

// rows calls f with each row of at most size of these, and tells how many that were.
func rows[T any](of []T, size int, f func(row []T)) int {
	n := 0
	var grow func(row []T, left int)
	grow = func(row []T, left int) {
		f(row)
		n++
		for _, x := range of {
			if left > 0 {
				grow(append(slices.Clip(row), x), left-1)
			}
		}
	}
	grow(nil, size)
	return n
}

func TestAllShortRowsOfSayings(t *testing.T) {
	names := []string{"", "\x00", "B", "a", "a\x00", "aa", "b", "\u00e9"}
	n := rows(sayings([]string{"a", "b"}, []string{"", "1"}, []int{0, -1}), 4, func(row []said) { checkRow(t, row, names) })
	n += rows(sayings([]string{"a", "aa", "B", "\u00e9"}, []string{"1"}, nil), 5, func(row []said) { checkRow(t, row, names) })
	n += rows(sayings([]string{"a", "a\x00", "", "\xff"}, nil, []int{2}), 5, func(row []said) { checkRow(t, row, names) })
	n += rows(sayings([]string{"a", "b"}, []string{"1"}, []int{2}), 6, func(row []said) { checkRow(t, row, names) })
	if n < 100000 {
		t.Error(n)
	}
}

func TestAllShortRowsOfNames(t *testing.T) {
	good, bad := 0, 0
	check := func(row []string) {
		for i, e := range []api.Env{{Vars: vars(row...)}, {Funs: funs(row...)}, {Vars: vars(row...), Args: row, Funs: funs(row...)}} {
			if env.Is(e) != isOne(e) {
				t.Errorf("%d: %q: %v", i, row, env.Is(e))
			}
		}
		if isOne(api.Env{Vars: vars(row...)}) {
			good++
		} else {
			bad++
		}
	}
	rows([]string{"", "\x00", "B", "_", "a", "a\x00", "aa", "b", "\u00e9", "\xff"}, 4, check)
	rows([]string{"1", "2", "3", "4"}, 6, check)
	if good < 300 || bad < 10000 {
		t.Error(good, bad)
	}
	rows([]string{"a", "b", "aa"}, 3, func(one []string) {
		rows([]string{"a", "b", "aa"}, 3, func(other []string) {
			e := api.Env{Vars: vars(one...), Funs: funs(other...)}
			if env.Is(e) != isOne(e) {
				t.Errorf("%q, %q: %v", one, other, env.Is(e))
			}
		})
	})
}

func TestAllShortOnesAreUnlike(t *testing.T) {
	var all []api.Env
	rows([]string{"", "a"}, 2, func(v []string) {
		rows([]string{"", "a"}, 2, func(a []string) {
			rows([]string{"", "a"}, 2, func(f []string) {
				all = append(all, api.Env{Vars: vars(v...), Args: a, Funs: funs(f...)})
			})
		})
	})
	for i, a := range all {
		for j, b := range all {
			if env.Same(a, b) != (i == j) {
				t.Errorf("%s, %s", told(a), told(b))
			}
		}
	}
}

func TestMadeUpRows(t *testing.T) {
	r := rand.New(rand.NewPCG(14, 1))
	values := []string{"", "1", "a b", "\x00", "\xff\u00e9"}
	again, anew, none := 0, 0, 0
	for i := range 400 {
		var row model
		e := api.Env{Args: args}
		few := 1 + i%len(inOrder)/(1+i%3)
		for range r.IntN(40 + i%100) {
			x := said{what: "set", name: inOrder[r.IntN(few)], value: values[r.IntN(len(values))]}
			if r.IntN(4) == 0 {
				x.name = strange[r.IntN(len(strange))]
			}
			switch r.IntN(3) {
			case 0:
				x = said{what: "unset", name: x.name}
			case 1:
				x = said{what: "define", name: x.name, node: r.IntN(7) - 3}
			}
			_, there := row.get(x.name)
			if x.what == "define" {
				_, there = row.fun(x.name)
			}
			switch {
			case there:
				again++
			case x.what == "unset":
				none++
			default:
				anew++
			}
			row, e = append(row, x), say(e, x)
			want(t, e, row.env(args))
		}
		checkNames(t, e, row, inOrder)
		checkNames(t, e, row, strange)
	}
	if again < 4000 || anew < 7000 || none < 4000 {
		t.Error(again, anew, none)
	}
}

func TestRowsInAnyOrder(t *testing.T) {
	r := rand.New(rand.NewPCG(14, 2))
	for range 300 {
		names := slices.Clone(inOrder)
		r.Shuffle(len(names), func(i, j int) { names[i], names[j] = names[j], names[i] })
		names = names[:r.IntN(len(names)+1)]
		var one, other model
		for i, name := range names {
			one = append(one, said{what: "set", name: name, value: fmt.Sprint(i)}, said{what: "define", name: name, node: i})
		}
		other = slices.Clone(one)
		r.Shuffle(len(other), func(i, j int) { other[i], other[j] = other[j], other[i] })
		want(t, checkRow(t, one, names), checkRow(t, other, names))
	}
}

// FuzzRow says what any bytes tell, each saying one byte of what and how long the name is, and the name: the value is the rest.
func FuzzRow(f *testing.F) {
	f.Add([]byte("\x06ba\x06aa\x07b\x08b"))
	f.Add([]byte("\x09\xff\xc3\xa9\x03a\x00\x00\x01\x02"))
	f.Fuzz(func(t *testing.T, b []byte) {
		if len(b) > 300 {
			return
		}
		var row model
		names := []string{"", "a", "\xff"}
		for len(b) > 0 {
			x := said{what: []string{"set", "unset", "define"}[b[0]%3], node: len(b)}
			size := min(int(b[0]/3%4), len(b)-1)
			x.name, b = string(b[1:1+size]), b[1+size:]
			if x.what == "set" {
				x.value = string(b[:min(len(b), 2)])
			}
			if x.what != "define" {
				x.node = 0
			}
			row, names = append(row, x), append(names, x.name, x.name+"\x00")
		}
		checkRow(t, row, names)
		e := api.Env{Vars: vars(names...), Args: names, Funs: funs(names...)}
		if env.Is(e) != isOne(e) {
			t.Errorf("%q", names)
		}
	})
}

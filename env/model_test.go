package env_test

import (
	"slices"

	"lazarus/api"
)

// The model keeps no order: it is a plain list of what was said, and what was said last of a name holds.

// said is that a name was given a value, or a node, or was taken.
type said struct {
	what  string // set, unset, define
	name  string
	value string
	node  int
}

// model is what was said, first to last.
type model []said

// get is the value that was said last of a name.
func (m model) get(name string) (string, bool) {
	for _, x := range slices.Backward(m) {
		if x.name == name && x.what != "define" {
			return x.value, x.what == "set"
		}
	}
	return "", false
}

// fun is the node that was said last of a name.
func (m model) fun(name string) (int, bool) {
	for _, x := range slices.Backward(m) {
		if x.name == name && x.what == "define" {
			return x.node, true
		}
	}
	return 0, false
}

// env is all that holds, each time the least name that is left.
func (m model) env(args []string) api.Env {
	e := api.Env{Args: args}
	left := []string{}
	for _, x := range m {
		if !slices.Contains(left, x.name) {
			left = append(left, x.name)
		}
	}
	for len(left) > 0 {
		least := 0
		for i := range left {
			if before(left[i], left[least]) {
				least = i
			}
		}
		name := left[least]
		left = slices.Delete(left, least, least+1)
		if value, ok := m.get(name); ok {
			e.Vars = append(e.Vars, api.Binding{Name: name, Value: value})
		}
		if node, ok := m.fun(name); ok {
			e.Funs = append(e.Funs, api.Fun{Name: name, Node: node})
		}
	}
	return e
}

// before tells whether a name is less, byte by byte.
func before(a, b string) bool {
	for i := range min(len(a), len(b)) {
		if a[i] != b[i] {
			return a[i] < b[i]
		}
	}
	return len(a) < len(b)
}

// isOne tells whether it is an Env: of any two entries the first has the lesser name.
func isOne(e api.Env) bool {
	for i, b := range e.Vars {
		for _, c := range e.Vars[i+1:] {
			if !before(b.Name, c.Name) {
				return false
			}
		}
	}
	for i, f := range e.Funs {
		for _, g := range e.Funs[i+1:] {
			if !before(f.Name, g.Name) {
				return false
			}
		}
	}
	return true
}

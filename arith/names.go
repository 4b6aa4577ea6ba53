package arith

import "lazarus/api"

// names are bindings, and what these stand for by name, once one was asked for: because both may be many, they are not gone through for each.
type names struct {
	vars []api.Binding
	all  map[string]value
}

// value is a number; not ok: what should be one is none.
type value struct {
	n  int64
	ok bool
}

// of is the number that a name stands for; false, if its value is none.
func (x *names) of(name string) (int64, bool) {
	if x.all == nil {
		x.all = values(x.vars)
	}
	v, is := x.all[name]
	return v.n, v.ok || !is
}

// values are what each name stands for.
func values(vars []api.Binding) map[string]value {
	all := map[string]value{}
	for _, v := range vars {
		// The first one of a name counts.
		if _, is := all[v.Name]; !is {
			n, ok := Num(v.Value)
			all[v.Name] = value{n, ok || v.Value == ""}
		}
	}
	return all
}

package arith_test

import (
	"slices"
	"sync"
	"testing"

	"lazarus/api"
	"lazarus/arith"
)

// someTexts come to all that Eval may answer.
var someTexts = []string{"x", "y*x", "e+nothing", "s", "x+s", "1/0", "1+", "", "abcdefghijklm", "x y", "most+1", "least", "(x+y)*(z-x)<x", "-x--y"}

func TestVarsStayAsTheyWere(t *testing.T) {
	for _, s := range someTexts {
		behind := []api.Binding{{Name: "behind", Value: "1"}, {Name: "x", Value: "2"}, {Name: "nothing", Value: "3"}}
		all := append(slices.Clone(vars), behind...)
		was := slices.Clone(all)
		arith.Eval(s, all[:len(vars)])
		arith.Eval(s, all)
		if !slices.Equal(all, was) {
			t.Errorf("%q: %q became %q", s, was, all)
		}
	}
}

func TestSpareRoomIsNoBinding(t *testing.T) {
	all := []api.Binding{{Name: "a", Value: "1"}, {Name: "b", Value: "2"}, {Name: "c", Value: "s"}}
	for size, want := range []int64{0, 1, 3} {
		if n, e := arith.Eval("a+b+c", all[:size]); n != want || e != api.OK {
			t.Error(size, n, e)
		}
	}
	if n, e := arith.Eval("a+b+c", all); n != 0 || e != api.ErrMath {
		t.Error(n, e)
	}
}

func TestNilIsAnEmptyList(t *testing.T) {
	for _, s := range append(someTexts, "1 + 2 * x", "7", "a", "!a", "1/a") {
		n, e := arith.Eval(s, nil)
		for _, empty := range [][]api.Binding{{}, make([]api.Binding, 0, 8), vars[:0]} {
			if m, f := arith.Eval(s, empty); m != n || f != e {
				t.Errorf("%q: %d, %v, but %d, %v of nil", s, m, f, n, e)
			}
		}
	}
	if n, e := arith.Eval("1 + 2 * x", nil); n != 1 || e != api.OK {
		t.Error(n, e)
	}
}

func TestNothingIsKept(t *testing.T) {
	// What was asked of other bindings, and what these were, is nothing to a later call.
	bound := []api.Binding{{Name: "x", Value: "1"}}
	for i, c := range []struct {
		b api.Binding
		n int64
		e api.Errno
	}{
		{api.Binding{Name: "x", Value: "1"}, 1, api.OK},
		{api.Binding{Name: "x", Value: "2"}, 2, api.OK},
		{api.Binding{Name: "x", Value: "s"}, 0, api.ErrMath},
		{api.Binding{Name: "x", Value: ""}, 0, api.OK},
		{api.Binding{Name: "x", Value: "3"}, 3, api.OK},
		{api.Binding{Name: "y", Value: "3"}, 0, api.OK},
	} {
		bound[0] = c.b
		for range 2 {
			if n, e := arith.Eval("x", bound); n != c.n || e != c.e {
				t.Error(i, n, e)
			}
			noForm(t, "x+")
			noMath(t, "x/0")
		}
	}
}

func TestCallsSideBySide(t *testing.T) {
	type answer struct {
		n int64
		e api.Errno
	}
	var want []answer
	for _, s := range someTexts {
		n, e := model(s, vars)
		want = append(want, answer{n, e})
	}
	var all sync.WaitGroup
	for range 8 {
		all.Go(func() {
			for range 200 {
				for i, s := range someTexts {
					if n, e := arith.Eval(s, vars); (answer{n, e}) != want[i] {
						t.Errorf("%q = %d, %v; want %v", s, n, e, want[i])
					}
				}
			}
		})
	}
	all.Wait()
}

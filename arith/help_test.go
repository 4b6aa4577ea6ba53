package arith_test

import (
	"testing"

	"lazarus/api"
	"lazarus/arith"
)

// most and least are the greatest and the least number of 64 binary digits with sign.
const (
	most  = 1<<63 - 1
	least = -1 << 63
)

// vars are what names stand for where a test says no more.
var vars = []api.Binding{
	{Name: "x", Value: "5"},
	{Name: "y", Value: "-3"},
	{Name: "e", Value: ""},
	{Name: "s", Value: "abc"},
	{Name: "z", Value: "0"},
	{Name: "most", Value: "9223372036854775807"},
	{Name: "least", Value: "-9223372036854775808"},
	{Name: "x", Value: "6"},
}

// check holds that s comes to n.
func check(t *testing.T, s string, n int64) {
	t.Helper()
	if got, e := arith.Eval(s, vars); got != n || e != api.OK {
		t.Errorf("%.60q = %d, %v; want %d", s, got, e, n)
	}
}

// checkNone holds that each of these has that error, and no number.
func checkNone(t *testing.T, want api.Errno, l ...string) {
	t.Helper()
	for _, s := range l {
		if got, e := arith.Eval(s, vars); got != 0 || e != want {
			t.Errorf("%.60q = %d, %v; want %v", s, got, e, want)
		}
	}
}

// noForm holds that each of these is no expr, noMath that each is one that has no number.
func noForm(t *testing.T, l ...string) {
	t.Helper()
	checkNone(t, api.ErrForm, l...)
}

func noMath(t *testing.T, l ...string) {
	t.Helper()
	checkNone(t, api.ErrMath, l...)
}

package arith_test

import (
	"math/big"
	"regexp"
	"strings"
	"testing"

	"lazarus/api"
	"lazarus/arith"
)

// A model of Eval, which takes the innermost parentheses again and again and puts their number in their place.

// piece is a sign, or (number) something that has a number; without a value it is one that is none.
type piece struct {
	sign   string
	number bool
	value  *big.Int
}

// first is what a text may begin with: blanks, digits, a name, a sign.
var first = regexp.MustCompile(`\A(?:([ \t\n]+)|([0-9]+)|([a-zA-Z_][a-zA-Z0-9_]*)|([<>=!]=|[-+*/%!<>()]))`)

// bounded is a value, if it has no more than 64 binary digits with sign, else none.
func bounded(n *big.Int) *big.Int {
	if n == nil || n.BitLen() > 63 && n.Cmp(big.NewInt(least)) != 0 {
		return nil
	}
	return n
}

// modelValue is the value of digits, perhaps with a sign; none, if s is something else.
func modelValue(s string) *big.Int {
	if !number.MatchString(s) {
		return nil
	}
	n, _ := new(big.Int).SetString(s, 10)
	return bounded(n)
}

// pieces are those of a text; false, if it has something else.
func pieces(s string, vars []api.Binding) ([]piece, bool) {
	var l []piece
	for s != "" {
		m := first.FindStringSubmatch(s)
		switch {
		case m == nil:
			return nil, false
		case m[2] != "":
			l = append(l, piece{number: true, value: modelValue(m[2])})
		case m[3] != "":
			if len(m[3]) > 12 {
				return nil, false
			}
			value := big.NewInt(0)
			for i := len(vars) - 1; i >= 0; i-- {
				if vars[i].Name == m[3] {
					value = big.NewInt(0)
					if vars[i].Value != "" {
						value = modelValue(vars[i].Value)
					}
				}
			}
			l = append(l, piece{number: true, value: value})
		case m[4] != "":
			l = append(l, piece{sign: m[4]})
		}
		s = s[len(m[0]):]
	}
	return l, true
}

// among tells whether a sign is one of these, which stand with blanks between.
func among(sign, these string) bool {
	return sign != "" && strings.Contains(" "+these+" ", " "+sign+" ")
}

// split is where the last one of these signs stands that has a number ahead; below 0, if there is none.
func split(l []piece, these string) int {
	for i := len(l) - 1; i > 0; i-- {
		if among(l[i].sign, these) && l[i-1].number {
			return i
		}
	}
	return -1
}

// both is what a sign makes of two values.
func both(sign string, a, b *big.Int) *big.Int {
	if a == nil || b == nil {
		return nil
	}
	so := map[string]bool{"<": a.Cmp(b) < 0, "<=": a.Cmp(b) <= 0, ">": a.Cmp(b) > 0, ">=": a.Cmp(b) >= 0, "==": a.Cmp(b) == 0, "!=": a.Cmp(b) != 0}
	if yes, is := so[sign]; is {
		if yes {
			return big.NewInt(1)
		}
		return big.NewInt(0)
	}
	n := new(big.Int)
	switch sign {
	case "+":
		n.Add(a, b)
	case "-":
		n.Sub(a, b)
	case "*":
		n.Mul(a, b)
	default:
		if b.Sign() == 0 {
			return nil
		}
		if sign == "/" {
			n.Quo(a, b)
		} else {
			n.Rem(a, b)
		}
	}
	return bounded(n)
}

// flat is the value of pieces that have no parentheses; false, if they are no expr.
func flat(l []piece) (*big.Int, bool) {
	for _, these := range []string{"< <= > >= == !=", "+ -", "* / %"} {
		at := split(l, these)
		if at < 0 {
			continue
		}
		if these[0] == '<' && split(l[:at], these) >= 0 {
			return nil, false
		}
		a, isA := flat(l[:at])
		b, isB := flat(l[at+1:])
		return both(l[at].sign, a, b), isA && isB
	}
	switch {
	case len(l) == 1 && l[0].number:
		return l[0].value, true
	case len(l) < 2 || !among(l[0].sign, "- !"):
		return nil, false
	}
	a, is := flat(l[1:])
	if l[0].sign == "!" {
		return both("==", a, big.NewInt(0)), is
	}
	return both("-", big.NewInt(0), a), is
}

// model is what Eval(s, vars) should be.
func model(s string, vars []api.Binding) (int64, api.Errno) {
	l, is := pieces(s, vars)
	for is {
		shut := 0
		for shut < len(l) && l[shut].sign != ")" {
			shut++
		}
		open := shut - 1
		for open >= 0 && l[open].sign != "(" {
			open--
		}
		within := l[open+1 : shut]
		value, good := flat(within)
		if !good || (open < 0) != (shut == len(l)) || open > 0 && l[open-1].number || shut+1 < len(l) && l[shut+1].number {
			return 0, api.ErrForm
		}
		if open < 0 {
			if value == nil {
				return 0, api.ErrMath
			}
			return value.Int64(), api.OK
		}
		rest := append([]piece{{number: true, value: value}}, l[shut+1:]...)
		l = append(l[:open:open], rest...)
	}
	return 0, api.ErrForm
}

// checkByModel holds Eval(s, vars) against the model, and tells its error.
func checkByModel(t *testing.T, s string, vars []api.Binding) api.Errno {
	t.Helper()
	want, wrong := model(s, vars)
	if n, e := arith.Eval(s, vars); n != want || e != wrong {
		t.Errorf("%q of %.100q = %d, %v; want %d, %v", s, vars, n, e, want, wrong)
	}
	return wrong
}

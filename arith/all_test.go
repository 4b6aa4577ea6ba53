package arith_test

import (
	"math/big"
	"math/rand/v2"
	"strconv"
	"strings"
	"testing"

	"lazarus/api"
	"lazarus/arith"
)

func TestAllShortRowsOfTokens(t *testing.T) {
	seen := map[api.Errno]int{}
	rows := func(size int, tokens ...string) {
		var grow func(s string, left int)
		grow = func(s string, left int) {
			seen[checkByModel(t, s, vars)]++
			for _, k := range tokens {
				if left > 0 {
					grow(s+k, left-1)
				}
			}
		}
		grow("", size)
	}
	rows(4, "0", "2", "x", "s", "least", "-", "!", "(", ")", "+", "*", "/", "%", "<", "<=", ">", ">=", "==", "!=")
	rows(6, "3", "(", ")", "-", "!", "*", "<")
	rows(7, "x", "(", ")", "-", "<")
	rows(7, "2", "-", "/", "!=", " ")
	if seen[api.OK] < 3000 || seen[api.ErrMath] < 1000 || seen[api.ErrForm] < 100000 {
		t.Error(seen)
	}
}

func TestAllShortTexts(t *testing.T) {
	for _, letters := range []string{"1=!<> ", "12ax_ -", "0(7)-!", "x+*/-\n"} {
		texts(letters, 6, func(s string) { checkByModel(t, s, vars) })
	}
	for a := range 256 {
		checkByModel(t, string([]byte{byte(a)}), vars)
		for b := range 256 {
			checkByModel(t, string([]byte{byte(a), byte(b)}), vars)
			checkByModel(t, "1"+string([]byte{byte(a), byte(b)})+"2", vars)
		}
	}
}

// signs are all that stand between two numbers.
var signs = []string{"+", "-", "*", "/", "%", "<", "<=", ">", ">=", "==", "!="}

// checkPair holds what all signs make of two numbers against big ones.
func checkPair(t *testing.T, a, b int64) {
	t.Helper()
	bound := []api.Binding{{Name: "a", Value: strconv.FormatInt(a, 10)}, {Name: "b", Value: strconv.FormatInt(b, 10)}}
	for _, sign := range signs {
		var wantN int64
		wantE := api.ErrMath
		if n := both(sign, big.NewInt(a), big.NewInt(b)); n != nil {
			wantN, wantE = n.Int64(), api.OK
		}
		if n, e := arith.Eval("a"+sign+"b", bound); n != wantN || e != wantE {
			t.Errorf("%d%s%d = %d, %v; want %d, %v", a, sign, b, n, e, wantN, wantE)
		}
	}
}

func TestPairsOfEdges(t *testing.T) {
	var edges []int64
	for _, n := range []int64{0, least, 1 << 31, 1 << 32, 1 << 62, 3037000499, 3074457345618258602, 1317624576693539401, 10, 1 << 16} {
		for beside := int64(-3); beside <= 3; beside++ {
			// Around the least number it wraps to the greatest ones.
			edges = append(edges, n+beside, -(n + beside))
		}
	}
	for _, a := range edges {
		for _, b := range edges {
			checkPair(t, a, b)
		}
		for _, s := range []string{"-a", "!a", "--a", "!!a", "-!a", "a", "(a)", "-(a)", "0-a", "-a-1", "a*a"} {
			checkByModel(t, s, []api.Binding{{Name: "a", Value: strconv.FormatInt(a, 10)}})
		}
	}
}

func TestPairsMadeUp(t *testing.T) {
	r := rand.New(rand.NewPCG(12, 1))
	for range 30000 {
		// Numbers of each length, so that many sums and products are next to the ends.
		a, b := int64(r.Uint64())>>r.IntN(64), int64(r.Uint64())>>r.IntN(64)
		checkPair(t, a, b)
	}
	for range 6000 {
		a := int64(r.Uint64()) >> r.IntN(62)
		if a == 0 {
			continue
		}
		for beside := int64(-1); beside <= 1; beside++ {
			checkPair(t, a, most/a+beside)
			checkPair(t, a, -(most/a)+beside)
			checkPair(t, a, most-a+beside)
			checkPair(t, a, least-a+beside)
		}
	}
}

// maker makes exprs up.
type maker struct{ r *rand.Rand }

// oneOf is one of these.
func (m maker) oneOf(l ...string) string { return l[m.r.IntN(len(l))] }

// blank is mostly nothing.
func (m maker) blank() string {
	return m.oneOf("", "", "", " ", "\t", "\n", " \n ")
}

// operand is digits or a name, and its value; mostly a small one.
func (m maker) operand() (string, *big.Int) {
	switch m.r.IntN(8) {
	case 0:
		s := m.oneOf("most", "least", "9223372036854775807", "9223372036854775808", "4294967296", "3037000500", "s", "0", "e")
		l, _ := pieces(s, vars)
		return s, l[0].value
	case 1, 2, 3:
		s := m.oneOf("x", "y", "e", "z", "nothing", "abcdefghijkl", "_9")
		l, _ := pieces(s, vars)
		return s, l[0].value
	}
	n := m.r.Int64N(12)
	return m.oneOf("", "0", "00") + strconv.FormatInt(n, 10), big.NewInt(n)
}

// made is an expr of that much within at that level - 0 a comparison, 1 a sum, 2 a product, 3 no sign between -, its blanks and its value.
func (m maker) made(level, much int) (string, *big.Int) {
	if level == 3 || much <= 0 {
		return m.unary(much)
	}
	if m.r.IntN(3) == 0 {
		return m.made(level+1, much)
	}
	sign := ""
	left, right := level, level+1
	switch level {
	case 0:
		sign, left = m.oneOf("<", "<=", ">", ">=", "==", "!="), level+1
	case 1:
		sign = m.oneOf("+", "-")
	case 2:
		sign = m.oneOf("*", "/", "%")
	}
	within := m.r.IntN(much)
	s, a := m.made(left, within)
	u, b := m.made(right, much-1-within)
	return s + m.blank() + sign + m.blank() + u, both(sign, a, b)
}

// unary is one that has no sign between.
func (m maker) unary(much int) (string, *big.Int) {
	switch {
	case much <= 0:
		return m.operand()
	case m.r.IntN(2) == 0:
		s, a := m.made(0, much-1)
		return "(" + m.blank() + s + m.blank() + ")", a
	}
	s, a := m.unary(much - 1)
	if m.r.IntN(2) == 0 {
		return "-" + m.blank() + s, both("-", big.NewInt(0), a)
	}
	return "!" + m.blank() + s, both("==", a, big.NewInt(0))
}

// changed is a text that has something left out, put in, or put in another place.
func (m maker) changed(s string) string {
	at := m.r.IntN(len(s) + 1)
	end := min(len(s), at+m.r.IntN(3))
	switch m.r.IntN(3) {
	case 0:
		return s[:at] + s[end:]
	case 1:
		return s[:at] + m.oneOf(append(signs, "(", ")", "!", "1", "x", " ", "=", "()", "\x00", "\xff", "\u00e9", "$", "abcdefghijklm", "1/0", "s")...) + s[end:]
	}
	return s[end:] + s[at:end] + s[:at]
}

func TestMadeUpExprs(t *testing.T) {
	m := maker{rand.New(rand.NewPCG(12, 2))}
	seen := map[api.Errno]int{}
	for i := range 25000 {
		s, want := m.made(0, i%25)
		s = m.blank() + s + m.blank()
		n, e := arith.Eval(s, vars)
		if want == nil && (n != 0 || e != api.ErrMath) || want != nil && (n != want.Int64() || e != api.OK) {
			t.Errorf("%q = %d, %v; want %v", s, n, e, want)
		}
		seen[checkByModel(t, s, vars)]++
		seen[checkByModel(t, m.changed(s), vars)]++
		seen[checkByModel(t, m.changed(m.changed(s)), vars)]++
	}
	if seen[api.OK] < 10000 || seen[api.ErrMath] < 5000 || seen[api.ErrForm] < 10000 {
		t.Error(seen)
	}
}

func TestMadeUpVars(t *testing.T) {
	m := maker{rand.New(rand.NewPCG(12, 3))}
	for range 20000 {
		var bound []api.Binding
		for range m.r.IntN(6) {
			bound = append(bound, api.Binding{Name: m.oneOf("a", "b", "c", "", "1", "abcdefghijkl", "abcdefghijklm"), Value: m.oneOf("", "0", "-0", "7", "-3", "007", "+1", " 1", "a", "1+1", "9223372036854775807", "9223372036854775808", "-9223372036854775808")})
		}
		s := m.oneOf("a", "b", "1")
		for range m.r.IntN(6) {
			s += m.oneOf(signs[:5]...) + m.oneOf("a", "b", "c", "1", "abcdefghijkl", "-a", "!b")
		}
		checkByModel(t, s, bound)
	}
}

func TestLongTexts(t *testing.T) {
	const size = 1 << 17
	check(t, "0"+strings.Repeat("+1", size), size)
	check(t, "0"+strings.Repeat(" - 1", size), -size)
	check(t, "1"+strings.Repeat("*1", size), 1)
	check(t, "1"+strings.Repeat("*-1", size), 1)
	check(t, "most"+strings.Repeat("/1", size)+"-most", 0)
	check(t, "x"+strings.Repeat("+x-x", size), 5)
	check(t, "0"+strings.Repeat("+x*y", size), -15*size)
	check(t, "0"+strings.Repeat("+(1<2)", size)+"=="+strconv.Itoa(size), 1)
	check(t, strings.Repeat(" \t\n", size)+"x"+strings.Repeat("\n", size), 5)
	check(t, "most-"+strconv.Itoa(size)+strings.Repeat("+1", size), most)
	noMath(t, "most-"+strconv.Itoa(size-1)+strings.Repeat("+1", size), "0"+strings.Repeat("+s", size), "1/0"+strings.Repeat("+1", size), "0"+strings.Repeat("+1", size)+"/0")
	noForm(t, strings.Repeat("+1", size), strings.Repeat("1+", size), "1"+strings.Repeat("<1", size), strings.Repeat("1 ", size), strings.Repeat("x", size), "1/0"+strings.Repeat("+1", size)+"+", strings.Repeat("\xff", size), strings.Repeat("\x00", size), strings.Repeat("=", size), strings.Repeat("<", size))
}

func TestManyNames(t *testing.T) {
	// Each name is asked for once and again, of many bindings, one of which is long.
	const size = 1 << 16
	bound := []api.Binding{{Name: "long", Value: strings.Repeat("0", size) + "1"}}
	var b strings.Builder
	for i := range size {
		name := "n" + strconv.Itoa(i)
		bound = append(bound, api.Binding{Name: name, Value: strconv.Itoa(i)})
		b.WriteString("+" + name + "-long")
	}
	for i := range size {
		bound = append(bound, api.Binding{Name: "n" + strconv.Itoa(i), Value: "none"})
	}
	if n, e := arith.Eval("0"+b.String(), bound); n != size*(size-1)/2-size || e != api.OK {
		t.Error(n, e)
	}
}

// FuzzEval holds any text, with any values, against the model.
func FuzzEval(f *testing.F) {
	f.Add("1 + 2 * x", "5", "")
	f.Add("-(x<=!y)%3", "-7", "9223372036854775807")
	f.Fuzz(func(t *testing.T, s, x, y string) {
		checkByModel(t, s, []api.Binding{{Name: "x", Value: x}, {Name: "y", Value: y}, {Name: "x", Value: y}})
		checkNum(t, s)
		checkNum(t, x)
	})
}

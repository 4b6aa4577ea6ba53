package arith_test

import (
	"strconv"
	"strings"
	"testing"

	"lazarus/api"
	"lazarus/arith"
)

func TestExampleOfTheChapter(t *testing.T) {
	if n, e := arith.Eval("1 + 2 * x", []api.Binding{{Name: "x", Value: "5"}}); n != 11 || e != api.OK {
		t.Error(n, e)
	}
}

func TestDigits(t *testing.T) {
	for _, c := range numbers {
		if !strings.HasPrefix(c.s, "-") {
			check(t, c.s, c.n)
			check(t, "("+c.s+")", c.n)
			check(t, "-"+c.s, -c.n)
			check(t, "-"+c.s+"-1", -c.n-1)
		}
	}
	check(t, strings.Repeat("0", 1<<16)+"8", 8)
}

func TestOperatorsByThemselves(t *testing.T) {
	check(t, "1+2", 3)
	check(t, "1-2", -1)
	check(t, "2*3", 6)
	check(t, "7/2", 3)
	check(t, "7%2", 1)
	check(t, "-2", -2)
	check(t, "!2", 0)
	check(t, "!0", 1)
	check(t, "(2)", 2)
	check(t, "0+0", 0)
	check(t, "0-0", 0)
	check(t, "0*5", 0)
	check(t, "5*0", 0)
	check(t, "0/5", 0)
	check(t, "0%5", 0)
	check(t, "-0", 0)
	check(t, "6/3", 2)
	check(t, "6%3", 0)
	check(t, "3%7", 3)
	check(t, "3/7", 0)
	check(t, "5-5", 0)
	check(t, "100-1", 99)
}

func TestComparisons(t *testing.T) {
	for _, c := range []struct {
		sign                string
		below, same, beyond int64
	}{{"<", 1, 0, 0}, {"<=", 1, 1, 0}, {">", 0, 0, 1}, {">=", 0, 1, 1}, {"==", 0, 1, 0}, {"!=", 1, 0, 1}} {
		rising := []string{"least", "-4294967296", "-2", "y+2", "0", "1", "2", "x", "10", "4294967296", "most"}
		for i, a := range rising {
			for j, b := range rising {
				want := c.same
				if i < j {
					want = c.below
				} else if i > j {
					want = c.beyond
				}
				check(t, a+c.sign+b, want)
				check(t, a+" "+c.sign+" "+b, want)
				check(t, "("+a+c.sign+b+")", want)
				check(t, "!("+a+c.sign+b+")", 1-want)
				check(t, "7*("+a+c.sign+b+")-2", 7*want-2)
			}
		}
		check(t, "1+1"+c.sign+"2", c.same)
		check(t, "2"+c.sign+"1+1", c.same)
		check(t, "2*3-5"+c.sign+"9%4*1", c.same)
		check(t, "-1"+c.sign+"!1", c.below)
		check(t, "!1"+c.sign+"-1", c.beyond)
		check(t, "1"+c.sign+"!0", c.same)
		check(t, "1"+c.sign+"!!0", c.beyond)
		check(t, "(1"+c.sign+"1)"+c.sign+"(2"+c.sign+"2)", c.same)
		check(t, "7"+c.sign+"(2"+c.sign+"2)", c.beyond)
		check(t, "(2"+c.sign+"2)"+c.sign+"7", c.below)
		check(t, "(7"+c.sign+"3"+")-1"+c.sign+"1", c.below)
	}
}

func TestOneComparisonAlone(t *testing.T) {
	signs := []string{"<", "<=", ">", ">=", "==", "!="}
	for _, a := range signs {
		for _, b := range signs {
			noForm(t, "1"+a+"2"+b+"3", "1 "+a+" 2 "+b+" 3", "(1"+a+"2"+b+"3)", "1"+a+"2+3"+b+"4", "1"+a+"2*3"+b+"4", "1"+a+"-2"+b+"3", "1+2"+a+"3"+b+"4", "1"+a+"(2)"+b+"3", "(1)"+a+"2"+b+"(3)",
				"1"+a+"x"+b+"3", "1"+a+"2"+b+"3+4", "1"+a+"(2"+b+"3)"+a+"4", "((1"+a+"2)"+b+"3"+a+"4)", "0"+a+"1+2*3"+b+"4", "1"+a+"2"+b+"3"+a+"4", "1/0"+a+"2"+b+"3")
			if a+b != "!==" {
				noForm(t, "1"+a+b+"2")
			}
			noForm(t, "1"+a+" "+b+"2", "1"+a+"+"+b+"2", "1"+a+"()"+b+"2")
		}
		noForm(t, a, a+"1", "1"+a, "1"+a+")", "("+a+"1)", "1+"+a+"1", "1"+a+"+1", "-"+a+"1", "1"+a+"*1", "1"+a+"==1", "1=="+a+"1", "1"+a+" =1")
	}
	noForm(t, "1!==2", "1<>2", "1=<2", "1=>2", "1===2", "1<==2", "1>==2", "1<<2", "1>>2", "1!<2", "1!>2")
}

func TestLeftOnesFirst(t *testing.T) {
	check(t, "1-2-3", -4)
	check(t, "1-2+3", 2)
	check(t, "1-(2+3)", -4)
	check(t, "10-1-2-3-4", 0)
	check(t, "10-(1-(2-(3-4)))", 12)
	check(t, "1+2-3+4-5", -1)
	check(t, "100/10/5", 2)
	check(t, "100/(10/5)", 50)
	check(t, "100/10*5", 50)
	check(t, "100/(10*5)", 2)
	check(t, "7*3/2", 10)
	check(t, "7*(3/2)", 7)
	check(t, "7/2*2", 6)
	check(t, "2*3%4", 2)
	check(t, "2*(3%4)", 6)
	check(t, "17%10%4", 3)
	check(t, "17%(10%4)", 1)
	check(t, "17%5*3", 6)
	check(t, "17%(5*3)", 2)
	check(t, "100%30/4", 2)
	check(t, "100/30%2", 1)
	check(t, "2*3*4*5", 120)
	check(t, "-2-2-2", -6)
	// Where it is too much one way, it is not the other.
	check(t, "most-1+1", most)
	noMath(t, "most+1-1", "most-(0-1)-1")
	check(t, "most+(1-1)", most)
	check(t, "least+1-1", least)
	noMath(t, "least-1+1", "most*2/2", "(least)/-1*0")
	check(t, "most/2*2", most-1)
	check(t, "most*(2/2)", most)
}

func TestWhatBindsTighter(t *testing.T) {
	check(t, "1+2*3", 7)
	check(t, "1*2+3", 5)
	check(t, "(1+2)*3", 9)
	check(t, "1*(2+3)", 5)
	check(t, "10-6/2", 7)
	check(t, "(10-6)/2", 2)
	check(t, "10/2-6", -1)
	check(t, "10-7%4", 7)
	check(t, "(10-7)%4", 3)
	check(t, "10%7-4", -1)
	check(t, "1+2*3-4/2+9%5*2", 13)
	check(t, "2*3+4*5", 26)
	check(t, "2*(3+4)*5", 70)
	check(t, "1+1<1*3", 1)
	check(t, "1+(1<1)*3", 1)
	check(t, "2<1+2", 1)
	check(t, "(2<1)+2", 2)
	check(t, "2+1<2", 0)
	check(t, "2+(1<2)", 3)
	check(t, "6==2*3", 1)
	check(t, "(6==2)*3", 0)
	check(t, "2*3==6", 1)
	check(t, "2*(3==6)", 0)
	check(t, "5-3>=10/5", 1)
	check(t, "7%4!=9-6", 0)
	// A sign ahead of a number binds tightest.
	check(t, "-7/2", -3)
	check(t, "-7%2", -1)
	check(t, "-2*3", -6)
	check(t, "-2+3", 1)
	check(t, "-(2+3)", -5)
	check(t, "!0+!7", 1)
	check(t, "!(0+!7)", 1)
	check(t, "!1*5", 0)
	check(t, "!0*5", 5)
	check(t, "!(0*5)", 1)
	check(t, "!2==0", 1)
	check(t, "!(2==0)", 1)
	check(t, "!0==0", 0)
	check(t, "!(0==0)", 0)
	check(t, "!5<1", 1)
	check(t, "!(5<1)", 1)
	check(t, "!3-3", -3)
	check(t, "!(3-3)", 1)
	check(t, "-1<0", 1)
	check(t, "-(1<0)", 0)
	check(t, "-(0<1)", -1)
}

func TestSignsAheadOfANumber(t *testing.T) {
	check(t, "-5", -5)
	check(t, "--5", 5)
	check(t, "---5", -5)
	check(t, "- - -5", -5)
	check(t, "!5", 0)
	check(t, "!!5", 1)
	check(t, "!!!5", 0)
	check(t, "!!0", 0)
	check(t, "!!9", 1)
	check(t, "-!0", -1)
	check(t, "!-1", 0)
	check(t, "!-0", 1)
	check(t, "-!-!0", 0)
	check(t, "!-!-1", 1)
	check(t, "-!!-7", -1)
	check(t, "-x", -5)
	check(t, "--x", 5)
	check(t, "-y", 3)
	check(t, "--y", -3)
	check(t, "!x", 0)
	check(t, "!z", 1)
	check(t, "!e", 1)
	check(t, "!nothing", 1)
	check(t, "-e", 0)
	check(t, "-nothing", 0)
	check(t, "!!x", 1)
	check(t, "-(5)", -5)
	check(t, "-(-(5))", 5)
	check(t, "--(5)", 5)
	check(t, "!(0)", 1)
	check(t, "!(!(0))", 0)
	check(t, "!(x-5)", 1)
	check(t, "-(x)", -5)
	check(t, "-(1+2)*-3", 9)
	check(t, "2 - -3", 5)
	check(t, "2--3", 5)
	check(t, "2---3", -1)
	check(t, "2+-3", -1)
	check(t, "2+ - -3", 5)
	check(t, "2*-3", -6)
	check(t, "-2*-3", 6)
	check(t, "6/-3", -2)
	check(t, "7%-3", 1)
	check(t, "2+!0", 3)
	check(t, "2-!0", 1)
	check(t, "2*!!5", 2)
	check(t, "1<!0", 0)
	check(t, "1<=!0", 1)
	check(t, "1==!0", 1)
	check(t, "1!=!0", 0)
	check(t, "1!=!!0", 1)
	check(t, "1>-1", 1)
	check(t, "1==-1", 0)
	noForm(t, "-", "--", "!", "!!", "-!", "!-", "1-", "1!", "x-", "x!", "(-)", "(!)", "1 ! 2", "1!2", "!1!", "-1-", "1 -", "-+1", "+1", "+x", "+(1)", "1++2", "1+ +2", "1-+2", "1*+2", "*1", "/1", "%1", "1**2", "1//2", "1%%2", "1*/2", "1-*2", "-*1", "!*1", "!/1", "-)", "!)", "(-)1")
}

func TestManySignsAheadOfANumber(t *testing.T) {
	for size := range 40 {
		odd := int64(size % 2)
		for _, c := range []string{"7", "x+2", "(7)", "(3+4)"} {
			check(t, strings.Repeat("-", size)+c, map[int64]int64{0: 7, 1: -7 + 4*int64(strings.Count(c, "x"))}[odd])
		}
		if size > 0 {
			check(t, strings.Repeat("!", size)+"7", 1-odd)
			check(t, strings.Repeat("!", size)+"z", odd)
			check(t, strings.Repeat("! ", size)+"(z)", odd)
			noForm(t, strings.Repeat("-", size), strings.Repeat("!", size))
		}
	}
	check(t, strings.Repeat("-", 1<<16)+"7", 7)
	check(t, strings.Repeat("!", 1<<16)+"7", 1)
	check(t, strings.Repeat("-!", 1<<16)+"0", 0)
	check(t, strings.Repeat("- ", 1<<16+1)+"x", -5)
	noForm(t, strings.Repeat("-", 1<<16), strings.Repeat("!", 1<<16), strings.Repeat("-", 1<<16)+")", strings.Repeat("-", 1<<16)+"+")
	check(t, strings.Repeat("-", 1<<21)+"7", 7)
}

func TestParentheses(t *testing.T) {
	check(t, "(7)", 7)
	check(t, "((7))", 7)
	check(t, "(((7)))", 7)
	check(t, "(x)", 5)
	check(t, "(1+2)*(3)", 9)
	check(t, "(1)+(2)", 3)
	check(t, "((1)+(2))*((3)-(4))", -3)
	check(t, "1+(2*(3-(4/(5%3))))", 3)
	check(t, "(((1+2)*3-4)/5)%6", 1)
	check(t, "(1<2)<3", 1)
	check(t, "1<(2<3)", 0)
	check(t, "((1<2)==(3<4))", 1)
	check(t, "1-(2<3)", 0)
	check(t, "(2<3)-1", 0)
	check(t, "(-1)", -1)
	check(t, "(!0)", 1)
	check(t, "(1)-(1)", 0)
	check(t, "(1)-1", 0)
	noForm(t, "()", "( )", "(())", "()1", "1()", "x()", "-()", "!()", "1+()", "()+1", "(1+)", "(+1)", "(1)()", "()(1)", "(()1)", "(1())", "(-)",
		"(", "((", "(1", "((1)", "((1", "1+(2", "(1+2", "(1)+(2", "-(1", "!(1", "(1<2", "(1<(2", "1(", "(1(", "1+(", "x(",
		")", "))", "1)", "(1))", "1))", "1+2)", "(1)+2)", "(1+2))", ")1", "1)+2", "1)(2", ")(", ")(1", ")1(", "x)", "-)", "-1)", "1<2)",
		"(1)(2)", "(1)2", "2(1)", "(1)x", "x(1)", "(1) (2)", "(1)!", "(1)!2", "(1)!(2)", "[1]", "{1}", "<1>")
}

func TestDeepOnes(t *testing.T) {
	for _, deep := range []int{1, 2, 10, 300, 1 << 12, 1<<16 + 1} {
		open, shut := strings.Repeat("(", deep), strings.Repeat(")", deep)
		check(t, open+"7"+shut, 7)
		check(t, open+"x"+shut+"+1", 6)
		check(t, "1+"+open+"1+2"+shut+"*2", 7)
		check(t, strings.Repeat("(1+", deep)+"1"+shut, int64(deep)+1)
		check(t, open+"1"+strings.Repeat("+1)", deep), int64(deep)+1)
		check(t, strings.Repeat("-(", deep)+"7"+shut, 7-14*int64(deep%2))
		check(t, strings.Repeat("!(", deep)+"7"+shut, int64(1-deep%2))
		check(t, strings.Repeat("0<(", deep)+"7"+shut, 1)
		check(t, strings.Repeat("(0*(1-", deep)+"7"+shut+shut, 0)
		check(t, "2"+strings.Repeat("-(1)", deep), 2-int64(deep))
		noForm(t, open, shut, open+shut, open+"7"+shut+")", open+"(7"+shut, open+"7"+shut[1:], open+"7", "7"+shut, open+"7"+shut+"7", open+"+"+shut, strings.Repeat("()", deep), strings.Repeat(")(", deep), strings.Repeat("1<(", deep)+"2<3<4"+shut)
		noMath(t, open+"1/0"+shut, open+"s"+shut, strings.Repeat("1+(", deep)+"most*2"+shut)
	}
	// Deeper than what is promised: calls within calls would not end well there.
	open, shut := strings.Repeat("(", 1<<21), strings.Repeat(")", 1<<21)
	check(t, open+"7"+shut, 7)
	noForm(t, open, open+shut)
}

func TestBlanks(t *testing.T) {
	for _, tokens := range [][]string{
		{"7"}, {"x"}, {"-", "7"}, {"!", "x"}, {"(", "7", ")"}, {"1", "+", "2"}, {"1", "-", "2"}, {"x", "*", "y"}, {"7", "/", "2"}, {"7", "%", "2"},
		{"1", "<", "2"}, {"1", "<=", "2"}, {"1", ">", "2"}, {"1", ">=", "2"}, {"1", "==", "2"}, {"1", "!=", "2"},
		{"(", "12", "+", "x", ")", "*", "-", "3", "<=", "!", "(", "y", "!=", "z", ")", "-", "-", "4", "%", "3"},
	} {
		want, e := arith.Eval(strings.Join(tokens, ""), vars)
		if e != api.OK {
			t.Error(tokens, e)
		}
		for _, blank := range []string{" ", "\t", "\n", "  ", " \t\n", "\n\n\t  ", strings.Repeat(" ", 100)} {
			check(t, blank+strings.Join(tokens, ""), want)
			check(t, strings.Join(tokens, "")+blank, want)
			check(t, strings.Join(tokens, blank), want)
			check(t, blank+strings.Join(tokens, blank)+blank, want)
			for i := range tokens {
				check(t, strings.Join(tokens[:i], "")+blank+strings.Join(tokens[i:], ""), want)
			}
		}
		// What is a blank elsewhere is none here.
		for _, no := range []string{"\r", "\v", "\f", "\x00", "\u00a0", "\u2003", "\u0085", "\ufeff", "\x85", "\xa0", ";", "\\\n", "\"\"", "#"} {
			for i := range len(tokens) + 1 {
				noForm(t, strings.Join(tokens[:i], " ")+no+strings.Join(tokens[i:], " "), strings.Join(tokens[:i], " ")+" "+no+" "+strings.Join(tokens[i:], " "))
			}
		}
	}
	for _, blank := range []string{" ", "\t", "\n", " \n\t"} {
		noForm(t, blank, blank+blank, "1"+blank+"2", "1"+blank+"2+3", "12"+blank+"34", "x"+blank+"y", "mo"+blank+"st", "x"+blank+"1", "1"+blank+"x",
			"1<"+blank+"=2", "1>"+blank+"=2", "1="+blank+"=2", "1!"+blank+"=2", "("+blank+")", "1+"+blank, "-"+blank, "1"+blank+"!"+blank+"2")
		check(t, "-"+blank+"1", -1)
		check(t, "!"+blank+"!"+blank+"1", 1)
	}
}

func TestNames(t *testing.T) {
	check(t, "x", 5)
	check(t, "y", -3)
	check(t, "x+y", 2)
	check(t, "x*x-y*y", 16)
	check(t, "x-y", 8)
	check(t, "x--y", 2)
	check(t, "-y-x", -2)
	check(t, "e", 0)
	check(t, "e+1", 1)
	check(t, "nothing", 0)
	check(t, "nothing+1", 1)
	check(t, "_", 0)
	check(t, "X", 0)
	check(t, "xx", 0)
	check(t, "x1", 0)
	check(t, "most", most)
	check(t, "least", least)
	noMath(t, "s", "s+1", "1+s", "-s", "!s", "!!s", "(s)", "0*s", "s*0", "s==s", "s<1", "x+s", "1<s", "x-x*s", "s-s", "s/s", "s%s")
}

func TestNamesByValue(t *testing.T) {
	for _, c := range numbers {
		one := []api.Binding{{Name: "a", Value: c.s}}
		if n, e := arith.Eval("a", one); n != c.n || e != api.OK {
			t.Errorf("%q: %d, %v", c.s, n, e)
		}
		if n, e := arith.Eval("0-a/2", one); n != -(c.n/2) || e != api.OK {
			t.Errorf("%q: %d, %v", c.s, n, e)
		}
	}
	for _, s := range noNumbers {
		want := api.ErrMath
		if s == "" {
			want = api.OK
		}
		for _, text := range []string{"a", "a+1-1", "0*a", "(a)", "!!a", "a*a"} {
			if n, e := arith.Eval(text, []api.Binding{{Name: "a", Value: s}}); n != 0 || e != want {
				t.Errorf("%q of %q: %d, %v", text, s, n, e)
			}
		}
		// A value that is none matters only where the text has its name.
		if n, e := arith.Eval("b+c", []api.Binding{{Name: "a", Value: s}, {Name: "b", Value: "2"}, {Name: "c", Value: "3"}, {Name: "b", Value: s}}); n != 5 || e != api.OK {
			t.Errorf("%q: %d, %v", s, n, e)
		}
	}
	// A value is no expr, and no name.
	for _, s := range []string{"1+2", "b", "(1)", "!0", "- 1", "--1", " 1", "1 ", "a"} {
		if n, e := arith.Eval("a", []api.Binding{{Name: "a", Value: s}, {Name: "b", Value: "2"}}); n != 0 || e != api.ErrMath {
			t.Errorf("%q: %d, %v", s, n, e)
		}
	}
}

func TestFirstOfAName(t *testing.T) {
	for i, c := range []struct {
		vars []api.Binding
		n    int64
		e    api.Errno
	}{
		{[]api.Binding{{Name: "a", Value: "1"}, {Name: "a", Value: "2"}}, 1, api.OK},
		{[]api.Binding{{Name: "b", Value: "3"}, {Name: "a", Value: "1"}, {Name: "b", Value: "4"}, {Name: "a", Value: "2"}}, 1, api.OK},
		{[]api.Binding{{Name: "a", Value: "1"}, {Name: "a", Value: "s"}}, 1, api.OK},
		{[]api.Binding{{Name: "a", Value: "1"}, {Name: "a", Value: ""}}, 1, api.OK},
		{[]api.Binding{{Name: "a", Value: ""}, {Name: "a", Value: "2"}}, 0, api.OK},
		{[]api.Binding{{Name: "a", Value: ""}, {Name: "a", Value: "s"}}, 0, api.OK},
		{[]api.Binding{{Name: "a", Value: "s"}, {Name: "a", Value: "2"}}, 0, api.ErrMath},
		{[]api.Binding{{Name: "a", Value: "s"}, {Name: "a", Value: ""}}, 0, api.ErrMath},
		{[]api.Binding{{Name: "a", Value: "0"}, {Name: "a", Value: "2"}}, 0, api.OK},
		{[]api.Binding{{Name: "A", Value: "1"}, {Name: "", Value: "2"}, {Name: "a ", Value: "3"}, {Name: " a", Value: "4"}, {Name: "aa", Value: "5"}, {Name: "a\x00", Value: "6"}, {Name: "\xff", Value: "7"}}, 0, api.OK},
		{[]api.Binding{{Name: "aa", Value: "5"}, {Name: "a", Value: "8"}}, 8, api.OK},
	} {
		if n, e := arith.Eval("a", c.vars); n != c.n || e != c.e {
			t.Error(i, n, e)
		}
		if n, e := arith.Eval("a+b*0+a", c.vars); n != 2*c.n || e != c.e {
			t.Error(i, n, e)
		}
	}
}

func TestNamesOfEachLength(t *testing.T) {
	for size := 1; size < 300; size++ {
		for _, name := range []string{strings.Repeat("a", size), strings.Repeat("Z", size), strings.Repeat("_", size), "a" + strings.Repeat("9", size-1), strings.Repeat("aB_9", size)[:size]} {
			bound := []api.Binding{{Name: name[:size-1], Value: "1"}, {Name: name, Value: "7"}, {Name: name + "a", Value: "2"}}
			for _, text := range []string{name, " " + name + "\n", "(" + name + ")", "0+" + name, name + "-0"} {
				n, e := arith.Eval(text, bound)
				if size <= api.MaxName && (n != 7 || e != api.OK) || size > api.MaxName && (n != 0 || e != api.ErrForm) {
					t.Errorf("%q: %d, %v", text, n, e)
				}
				n, e = arith.Eval(text, nil)
				if n != 0 || e == api.OK != (size <= api.MaxName) || e != api.OK && e != api.ErrForm {
					t.Errorf("%q: %d, %v", text, n, e)
				}
			}
		}
	}
	noForm(t, strings.Repeat("x", 1<<20), strings.Repeat("x", 1<<20)+"+1", "1+"+strings.Repeat("_9", 1<<20))
	// A name that is none is no expr, wherever it stands, and whatever else is.
	noForm(t, "abcdefghijklm", "-abcdefghijklm", "0*abcdefghijklm", "(abcdefghijklm)", "1<abcdefghijklm", "abcdefghijklm+1/0", "1/0+abcdefghijklm", "s*abcdefghijklm", "abcdefghijkl+abcdefghijklm")
	check(t, "abcdefghijkl", 0)
	check(t, "abcdefghijkl+abcdefghijk1", 0)
}

func TestDigitsAheadOfALetter(t *testing.T) {
	for _, s := range []string{"1a", "1x", "12x", "0x", "0x1", "0x1f", "0b1", "1_", "1_0", "1_000", "1e3", "1E3", "9Z", "0z", "x+1x", "1x+x", "(1x)", "-1x", "1<1x", "1x<1", "1xx", "1x1", "007x", "9223372036854775807x", "9223372036854775808x"} {
		noForm(t, s, " "+s, s+" ")
	}
	check(t, "x1", 0)
	check(t, "x1x", 0)
	check(t, "_1", 0)
	for r := 'a'; r <= 'z'; r++ {
		noForm(t, "1"+string(r), "1"+strings.ToUpper(string(r)))
	}
}

func TestRoundingTowards0(t *testing.T) {
	for _, c := range []struct{ a, b, ratio, left int64 }{
		{7, 2, 3, 1}, {-7, 2, -3, -1}, {7, -2, -3, 1}, {-7, -2, 3, -1},
		{8, 2, 4, 0}, {-8, 2, -4, 0}, {8, -2, -4, 0}, {-8, -2, 4, 0},
		{1, 2, 0, 1}, {-1, 2, 0, -1}, {1, -2, 0, 1}, {-1, -2, 0, -1},
		{9, 10, 0, 9}, {-9, 10, 0, -9}, {9, -10, 0, 9}, {-9, -10, 0, -9},
		{17, 5, 3, 2}, {-17, 5, -3, -2}, {17, -5, -3, 2}, {-17, -5, 3, -2},
		{0, 3, 0, 0}, {0, -3, 0, 0}, {5, 1, 5, 0}, {5, -1, -5, 0}, {-5, 1, -5, 0}, {-5, -1, 5, 0},
		{most, 2, 4611686018427387903, 1}, {most, -2, -4611686018427387903, 1}, {least, 2, -4611686018427387904, 0}, {least, -2, 4611686018427387904, 0},
		{least, 3, -3074457345618258602, -2}, {least, -3, 3074457345618258602, -2}, {least, 10, -922337203685477580, -8}, {most, 10, 922337203685477580, 7},
		{most, 1, most, 0}, {most, -1, -most, 0}, {least, 1, least, 0}, {-most, -1, most, 0},
		{most, most, 1, 0}, {least, least, 1, 0}, {most, least, 0, most}, {least, most, -1, -1}, {-most, least, 0, -most}, {-most, most, -1, 0},
	} {
		bound := []api.Binding{{Name: "a", Value: strconv.FormatInt(c.a, 10)}, {Name: "b", Value: strconv.FormatInt(c.b, 10)}}
		if n, e := arith.Eval("a/b", bound); n != c.ratio || e != api.OK {
			t.Error(c, n, e)
		}
		if n, e := arith.Eval("a%b", bound); n != c.left || e != api.OK {
			t.Error(c, n, e)
		}
		if n, e := arith.Eval("a/b*b+a%b", bound); n != c.a || e != api.OK {
			t.Error(c, n, e)
		}
		if n, e := arith.Eval("a / (b) == a/b", bound); n != 1 || e != api.OK {
			t.Error(c, n, e)
		}
	}
	check(t, "-7/2", -3)
	check(t, "-7%2", -1)
	check(t, "7/-2", -3)
	check(t, "7%-2", 1)
	check(t, "-7/-2", 3)
	check(t, "-7%-2", -1)
	check(t, "least%-1", 0)
	check(t, "least % (0-1)", 0)
}

func TestDivisorsThatAre0(t *testing.T) {
	for _, zero := range []string{"0", "-0", "00", "(0)", "z", "e", "nothing", "(x-x)", "!x", "!1", "(1<1)", "-(1-1)", "(0*5)", "0*5", "(0/5)"} {
		for _, a := range []string{"1", "0", "-1", "x", "most", "least", "(1+2)"} {
			noMath(t, a+"/"+zero, a+"%"+zero, a+" / "+zero, "1+"+a+"/"+zero, "0*("+a+"%"+zero+")", a+"/"+zero+"*0", a+"%"+zero+"<1", "!("+a+"/"+zero+")", "-("+a+"%"+zero+")", "("+a+"/"+zero+")=="+"("+a+"/"+zero+")")
		}
	}
	check(t, "0/1", 0)
	check(t, "0%1", 0)
	check(t, "1/!0", 1)
	check(t, "1/(0+1)", 1)
	check(t, "1/1-0", 1)
	check(t, "1/1*0", 0)
}

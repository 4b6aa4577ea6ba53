package split_test

import (
	"slices"
	"strings"
	"testing"

	"lazarus/api"
	"lazarus/glob"
	"lazarus/glyph"
	"lazarus/split"
)

func TestTheChaptersExample(t *testing.T) {
	l := row(parted("a b"), quote("c"))
	parts(t, l, `a`, `b\c`)
	joins(t, l, `a b\c`)
}

func TestNoRun(t *testing.T) {
	for _, l := range [][]split.Run{nil, {}, make([]split.Run, 0, 4), row(quote("a"), stop)[:0]} {
		parts(t, l)
		joins(t, l, ``)
	}
}

func TestRunsWithoutText(t *testing.T) {
	empty := split.Run{Break: true}
	parts(t, row(plain("")))
	parts(t, row(parted("")))
	parts(t, row(empty))
	parts(t, row(quote("")), ``)
	parts(t, row(plain(""), plain("")))
	parts(t, row(plain(""), parted(""), empty, plain("")))
	parts(t, row(quote(""), quote("")), ``)
	parts(t, row(plain(""), quote(""), parted("")), ``)
	parts(t, row(plain("a"), plain(""), plain("b")), `ab`)
	parts(t, row(plain("a"), parted(""), plain("b")), `ab`)
	parts(t, row(plain("a"), quote(""), plain("b")), `ab`)
	parts(t, row(plain("a"), empty, plain("b")), `a`, `b`)
}

func TestOneRun(t *testing.T) {
	parts(t, row(plain("a")), `a`)
	parts(t, row(plain("abc")), `abc`)
	parts(t, row(quote("a")), `\a`)
	parts(t, row(quote("abc")), `\a\b\c`)
	parts(t, row(parted("a")), `a`)
	parts(t, row(parted("abc")), `abc`)
	parts(t, row(stop))
	for _, quoted := range []bool{false, true} {
		x := split.Run{Text: `a\b`, Quote: quoted}
		want := glob.Chars(`a\b`, quoted)
		if got := split.Fields(row(x)); !same(got, [][]api.Char{want}) || !slices.Equal(split.Join(row(x)), want) {
			t.Error(got)
		}
	}
}

// Each of the three set and not, all eight.
func TestWhichOfThemIsLookedAtFirst(t *testing.T) {
	for i, want := range []struct {
		alone, empty, blank []string
		join                string
	}{
		{[]string{` a b`}, []string{}, []string{` `}, ` a b`},
		{[]string{`\ \a\ \b`}, []string{``}, []string{`\ `}, `\ \a\ \b`},
		{[]string{`a`, `b`}, []string{}, []string{}, ` a b`},
		{[]string{`\ \a\ \b`}, []string{``}, []string{`\ `}, `\ \a\ \b`},
		{[]string{}, []string{}, []string{}, ` `},
		{[]string{}, []string{}, []string{}, ` `},
		{[]string{}, []string{}, []string{}, ` `},
		{[]string{}, []string{}, []string{}, ` `},
	} {
		x := split.Run{Text: " a b", Quote: i&1 > 0, Split: i&2 > 0, Break: i&4 > 0}
		parts(t, row(x), want.alone...)
		joins(t, row(x), want.join)
		joins(t, row(plain("u"), x, quote("v")), `u`+want.join+`\v`)
		x.Text = ""
		parts(t, row(x), want.empty...)
		x.Text = " "
		parts(t, row(x), want.blank...)
	}
	between := func(s string, i int) []split.Run {
		return row(plain("u"), split.Run{Text: s, Quote: i&1 > 0, Split: i&2 > 0, Break: i&4 > 0}, quote("v"))
	}
	for i := range 8 {
		switch {
		case i >= 4:
			for _, s := range []string{"", "a", " ", "a b", " a "} {
				parts(t, between(s, i), `u`, `\v`)
			}
		case i == 2:
			parts(t, between("", i), `u\v`)
			parts(t, between("a", i), `ua\v`)
			parts(t, between(" ", i), `u`, `\v`)
			parts(t, between(" a", i), `u`, `a\v`)
			parts(t, between("a ", i), `ua`, `\v`)
			parts(t, between(" a ", i), `u`, `a`, `\v`)
		case i == 0:
			parts(t, between("", i), `u\v`)
			parts(t, between(" ", i), `u \v`)
			parts(t, between(" a b ", i), `u a b \v`)
		default:
			parts(t, between("", i), `u\v`)
			parts(t, between(" ", i), `u\ \v`)
			parts(t, between(" a b ", i), `u\ \a\ \b\ \v`)
		}
	}
}

func TestBreaks(t *testing.T) {
	parts(t, row(stop, plain("a")), `a`)
	parts(t, row(plain("a"), stop), `a`)
	parts(t, row(stop, plain("a"), stop), `a`)
	parts(t, row(plain("a"), stop, plain("b")), `a`, `b`)
	parts(t, row(plain("a"), stop, stop, plain("b")), `a`, `b`)
	parts(t, row(stop, stop, plain("a"), stop, stop, stop, plain("b"), stop, stop), `a`, `b`)
	parts(t, row(stop, stop))
	parts(t, row(quote("a"), stop, quote("b")), `\a`, `\b`)
	parts(t, row(parted("a"), stop, parted("b")), `a`, `b`)
	parts(t, row(plain("a"), quote("b"), stop, parted("c"), plain("d")), `a\b`, `cd`)
	// What is between them may have begun no field.
	parts(t, row(stop, plain(""), stop))
	parts(t, row(stop, parted(""), stop))
	parts(t, row(stop, parted(" "), stop))
	parts(t, row(stop, quote(""), stop), ``)
	parts(t, row(stop, plain(" "), stop), ` `)
	parts(t, row(plain("a"), stop, plain(""), stop, plain("b")), `a`, `b`)
	parts(t, row(plain("a"), stop, parted(" \t"), stop, plain("b")), `a`, `b`)
	parts(t, row(plain("a"), stop, quote(""), stop, plain("b")), `a`, ``, `b`)
	parts(t, row(parted("a "), stop, parted(" b")), `a`, `b`)
	parts(t, row(parted("a "), stop, plain("b")), `a`, `b`)
	parts(t, row(plain("a"), stop, parted(" b")), `a`, `b`)
}

func TestTheTextOfABreakIsNotLookedAt(t *testing.T) {
	for _, s := range []string{"", "a", " ", "a b", "\x00", "\xff", "\u00e9", strings.Repeat("a ", 1<<16)} {
		x := split.Run{Text: s, Break: true}
		parts(t, row(x))
		joins(t, row(x), ` `)
		parts(t, row(plain("a"), x, plain("b")), `a`, `b`)
		joins(t, row(plain("a"), x, plain("b")), `a b`)
		parts(t, row(x, quote("b"), x), `\b`)
		joins(t, row(x, quote("b"), x), ` \b `)
	}
}

func TestAQuoteWithoutLetters(t *testing.T) {
	no := quote("")
	parts(t, row(no), ``)
	parts(t, row(no, no, no), ``)
	// Beside letters.
	parts(t, row(no, plain("a")), `a`)
	parts(t, row(plain("a"), no), `a`)
	parts(t, row(no, parted("a")), `a`)
	parts(t, row(parted("a"), no), `a`)
	parts(t, row(no, quote("a"), no), `\a`)
	parts(t, row(plain("a"), no, plain("b")), `ab`)
	// Between Breaks.
	parts(t, row(no, stop), ``)
	parts(t, row(stop, no), ``)
	parts(t, row(no, stop, no), ``, ``)
	parts(t, row(no, no, stop, no, no), ``, ``)
	parts(t, row(stop, no, stop, no, stop, stop, no, stop), ``, ``, ``)
	parts(t, row(plain("a"), stop, no, stop, plain("b")), `a`, ``, `b`)
	// Between Blanks of Split.
	parts(t, row(parted(" "), no), ``)
	parts(t, row(no, parted(" ")), ``)
	parts(t, row(parted(" "), no, parted(" ")), ``)
	parts(t, row(parted("a "), no, parted(" b")), `a`, ``, `b`)
	parts(t, row(parted("a "), no), `a`, ``)
	parts(t, row(no, parted(" a")), ``, `a`)
	parts(t, row(parted("a "), no, parted("b")), `a`, `b`)
	parts(t, row(parted("a"), no, parted(" b")), `a`, `b`)
	parts(t, row(no, parted(" "), no, parted("\t\n"), no), ``, ``, ``)
	// Between one of each.
	parts(t, row(stop, no, parted(" ")), ``)
	parts(t, row(parted(" "), no, stop), ``)
	// Beside Blanks that stay.
	parts(t, row(no, plain(" ")), ` `)
	parts(t, row(no, quote(" ")), `\ `)
}

func TestBlanksOfSplit(t *testing.T) {
	for _, b := range []string{" ", "\t", "\n", "  ", "\t\t", "\n\n", " \t", "\t ", " \n", "\n\t ", " \t\n \t\n", strings.Repeat(" \n\t", 1<<12)} {
		parts(t, row(parted(b)))
		parts(t, row(parted(b), parted(b)))
		parts(t, row(parted(b+"a")), `a`)
		parts(t, row(parted("a"+b)), `a`)
		parts(t, row(parted(b+"ab"+b)), `ab`)
		parts(t, row(parted("a"+b+"b")), `a`, `b`)
		parts(t, row(parted(b+"a"+b+"bc"+b+"d"+b)), `a`, `bc`, `d`)
		parts(t, row(parted("\u00e9"+b+"\xff"+b+"\x00")), "\u00e9", "\ufffd", "\x00")
		parts(t, row(parted("*"+b+"[a]")), `*`, `[a]`)
		joins(t, row(parted("a"+b+"b")), `a`+b+`b`)
		joins(t, row(parted(b), quote(""), parted(b)), b+b)
	}
}

// other are no Blanks, though most look like them.
var other = []string{
	"\r", "\v", "\f", "\b", "\x00", "\x1f", "\x1c", "\x1d", "\x1e", "\x7f", "\u0085", "\u00a0", "\u1680", "\u180e",
	"\u2000", "\u2001", "\u2002", "\u2003", "\u2007", "\u2009", "\u200a", "\u200b", "\u2028", "\u2029", "\u202f", "\u205f", "\u2060", "\u3000", "\ufeff",
	"\u0120", "\u0109", "\u010a", "\u2020", "\U00010020", ".", "-", "_", "'", "\"", "\\", ",",
}

func TestLettersThatAreNoBlanks(t *testing.T) {
	for _, b := range other {
		want := glob.Chars("a"+b+b+"b"+b, false)
		for _, x := range []split.Run{parted("a" + b + b + "b" + b), plain("a" + b + b + "b" + b)} {
			if got := split.Fields(row(x)); !same(got, [][]api.Char{want}) || !slices.Equal(split.Join(row(x)), want) {
				t.Errorf("%+q: %s", b, toldAll(got))
			}
			all(t, row(x))
		}
		if got := split.Words(b + "a" + b + "b"); !slices.Equal(got, []string{b + "a" + b + "b"}) {
			t.Errorf("%+q: %+q", b, got)
		}
	}
}

func TestEachLetter(t *testing.T) {
	n := 0
	for r := rune(0); r <= 0x10ffff; r++ {
		if r >= 0xd800 && r < 0xe000 {
			continue
		}
		s := "a" + string(r) + "b"
		f, words := split.Fields(row(parted(s))), split.Words(s)
		if r == ' ' || r == '\t' || r == '\n' {
			n++
			if !same(f, [][]api.Char{of("a"), of("b")}) || !slices.Equal(words, []string{"a", "b"}) {
				t.Errorf("%x: %s, %q", r, toldAll(f), words)
			}
			continue
		}
		c := api.Char{R: r}
		if len(f) != 1 || len(f[0]) != 3 || f[0][1] != c || len(words) != 1 || words[0] != s {
			t.Errorf("%x: %s, %q", r, toldAll(f), words)
		}
		if j := split.Join(row(quote(string(r)))); len(j) != 1 || j[0] != (api.Char{R: r, Q: true}) {
			t.Errorf("%x: %q", r, spelt(j))
		}
	}
	if n != 3 {
		t.Error(n)
	}
}

func TestAFieldGoesOnFromRunToRun(t *testing.T) {
	parts(t, row(plain("a"), plain("b")), `ab`)
	parts(t, row(plain("a"), quote("b"), plain("c")), `a\bc`)
	parts(t, row(quote("a"), plain("b"), quote("c")), `\ab\c`)
	parts(t, row(plain("a"), quote("b"), parted("c"), stop, quote("d")), `a\bc`, `\d`)
	parts(t, row(parted("a"), parted("b"), parted("c")), `abc`)
	parts(t, row(quote("a"), quote("a")), `\a\a`)
	parts(t, row(plain("a "), quote(" b"), plain(" c")), `a \ \b c`)
	parts(t, row(parted("a b"), plain("c d"), parted("e f")), `a`, `bc de`, `f`)
	parts(t, row(parted("a b"), quote("c d"), parted("e f")), `a`, `b\c\ \de`, `f`)
	// A Blank of Split ends what another one began.
	parts(t, row(plain("a"), parted(" ")), `a`)
	parts(t, row(plain("a"), parted(" "), plain("b")), `a`, `b`)
	parts(t, row(plain("a"), parted(" b")), `a`, `b`)
	parts(t, row(plain("a"), parted("b c")), `ab`, `c`)
	parts(t, row(quote("a"), parted(" "), quote("b")), `\a`, `\b`)
	parts(t, row(quote("a"), parted("\tb\n"), quote("c")), `\a`, `b`, `\c`)
	parts(t, row(quote(" "), parted(" "), quote(" ")), `\ `, `\ `)
	parts(t, row(parted("a"), parted(" "), parted("b")), `a`, `b`)
	parts(t, row(parted("a "), parted(" b")), `a`, `b`)
	parts(t, row(parted("a"), parted(" b")), `a`, `b`)
	parts(t, row(parted("a "), plain("b")), `a`, `b`)
	parts(t, row(parted("a "), quote("b")), `a`, `\b`)
	parts(t, row(plain("a"), parted(""), parted(" "), parted(""), quote("b")), `a`, `\b`)
	parts(t, row(plain("1"), quote("2"), parted("3 4"), plain("5"), quote("6"), parted("7\t\t8 ")), `1\23`, `45\67`, `8`)
}

func TestRunsThatAreNoneOfTheThree(t *testing.T) {
	for _, s := range []string{" ", "\t", "\n", "  ", " a", "a ", "a b", " a\tb\n", "\n\n"} {
		parts(t, row(plain(s)), s)
		parts(t, row(plain(s), plain(s)), s+s)
		parts(t, row(plain(s), stop, plain(s)), s, s)
		parts(t, row(parted(" "), plain(s), parted(" ")), s)
		parts(t, row(parted("a "), plain(s), parted(" b")), `a`, s, `b`)
		joins(t, row(plain(s), plain(s)), s+s)
	}
}

// strange are texts that are not all ASCII, or none at all, each with its letters.
var strange = []struct {
	s    string
	want []rune
}{
	{"\x00", []rune{0}},
	{"a\x00b\x00", []rune{'a', 0, 'b', 0}},
	{"\u00e9", []rune{0xe9}},
	{"e\u0301", []rune{'e', 0x301}},
	{"\u20ac\u0416", []rune{0x20ac, 0x416}},
	{"\U0001f600\U0010ffff", []rune{0x1f600, 0x10ffff}},
	{"\ufeff\ufffd\uffff", []rune{0xfeff, 0xfffd, 0xffff}},
	{"\xff", []rune{0xfffd}},
	{"\xff\xfe", []rune{0xfffd, 0xfffd}},
	{"a\x80b", []rune{'a', 0xfffd, 'b'}},
	{"\xc3", []rune{0xfffd}},
	{"\xa9", []rune{0xfffd}},
	{"\xe2\x82", []rune{0xfffd, 0xfffd}},
	{"\xe2\x82a", []rune{0xfffd, 0xfffd, 'a'}},
	{"\xed\xa0\x80", []rune{0xfffd, 0xfffd, 0xfffd}},
	{"\xc0\xa0", []rune{0xfffd, 0xfffd}},
	{"\xc0\x8a", []rune{0xfffd, 0xfffd}},
	{"\xe0\x80\xa0", []rune{0xfffd, 0xfffd, 0xfffd}},
	{"\xf4\x90\x80\x80", []rune{0xfffd, 0xfffd, 0xfffd, 0xfffd}},
	{"\u00e9\xff\u00e9", []rune{0xe9, 0xfffd, 0xe9}},
	{"\xa0", []rune{0xfffd}},
	{"\x85", []rune{0xfffd}},
}

func TestStrangeLetters(t *testing.T) {
	for _, c := range strange {
		for _, x := range []split.Run{plain(c.s), quote(c.s), parted(c.s)} {
			var want []api.Char
			for _, r := range c.want {
				want = append(want, api.Char{R: r, Q: x.Quote})
			}
			if got := split.Fields(row(x)); !same(got, [][]api.Char{want}) {
				t.Errorf("%+q: %s", c.s, toldAll(got))
			}
			if got := split.Join(row(x)); !slices.Equal(got, want) {
				t.Errorf("%+q: %+q", c.s, spelt(got))
			}
			got := split.Fields(row(parted("a "), x, parted(" b"), stop, x, x))
			if !same(got, [][]api.Char{of("a"), want, of("b"), slices.Concat(want, want)}) {
				t.Errorf("%+q: %s", c.s, toldAll(got))
			}
		}
		got := split.Fields(row(parted(c.s + " " + c.s + "\n" + c.s)))
		want := glob.Chars(string(c.want), false)
		if !same(got, [][]api.Char{want, want, want}) {
			t.Errorf("%+q: %s", c.s, toldAll(got))
		}
	}
	// A letter is not put together from the bytes of two runs.
	parts(t, row(plain("\xc3"), plain("\xa9")), "\ufffd\ufffd")
	parts(t, row(quote("\xe2\x82"), parted("\xac")), "\\\ufffd\\\ufffd\ufffd")
	joins(t, row(plain("\xc3"), plain("\xa9")), "\ufffd\ufffd")
	// Nor is a Blank behind bytes that begin none a part of it.
	parts(t, row(parted("\xc3 \xa9")), "\ufffd", "\ufffd")
	parts(t, row(parted("\xe2\x82\n\xf0\x9f\x98\t")), "\ufffd\ufffd", "\ufffd\ufffd\ufffd")
}

func TestLongOnes(t *testing.T) {
	const size = 1 << 17
	long := strings.Repeat("a\u00e9 \xff", size)
	for _, x := range []split.Run{plain(long), quote(long), parted(long)} {
		f := split.Fields(row(x))
		want, each := 1, 4*size
		if x.Split {
			want, each = size+1, 3
		}
		if len(f) != want || len(f[want/2]) != each || len(split.Join(row(x))) != glyph.Count(long) {
			t.Error(len(f), len(f[0]))
		}
		all(t, row(x))
	}
	var many, empty []split.Run
	for range size {
		many = append(many, plain("a"), quote("b"), parted(" "), stop)
		empty = append(empty, quote(""), stop)
	}
	f := split.Fields(many)
	if len(f) != size || !slices.Equal(f[0], of(`a\b`)) || !slices.Equal(f[size-1], of(`a\b`)) || len(split.Join(many)) != 4*size {
		t.Error(len(f))
	}
	f = split.Fields(empty)
	if len(f) != size || len(f[0]) != 0 || len(f[size-1]) != 0 || len(split.Join(empty)) != size {
		t.Error(len(f))
	}
}

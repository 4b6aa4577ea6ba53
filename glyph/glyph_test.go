package glyph_test

import (
	"math"
	"slices"
	"strings"
	"testing"

	"lazarus/api"
	"lazarus/glyph"
)

// texts are ordinary ones and the edges, each with its letters.
var texts = []struct {
	s    string
	want []rune
}{
	{"", nil},
	{"a", []rune{'a'}},
	{" ", []rune{' '}},
	{"ab\tc\n", []rune{'a', 'b', '\t', 'c', '\n'}},
	{"echo \"$a\" | b", []rune{'e', 'c', 'h', 'o', ' ', '"', '$', 'a', '"', ' ', '|', ' ', 'b'}},
	{"\u00e91", []rune{0xe9, '1'}},
	{"1\u00e9", []rune{'1', 0xe9}},
	{"e\u0301", []rune{'e', 0x301}},
	{"a\u20acb\U0001f600c", []rune{'a', 0x20ac, 'b', 0x1f600, 'c'}},
	{"\x7f\u0080", []rune{0x7f, 0x80}},
	{"\x01", []rune{1}},
	{"\x7f", []rune{0x7f}},
	{"\xc2\x80", []rune{0x80}},
	{"\xdf\xbf", []rune{0x7ff}},
	{"\xe0\xa0\x80", []rune{0x800}},
	{"\xed\x9f\xbf", []rune{0xd7ff}},
	{"\xee\x80\x80", []rune{0xe000}},
	{"\xef\xbf\xbe", []rune{0xfffe}},
	{"\xef\xbf\xbf", []rune{0xffff}},
	{"\xf0\x90\x80\x80", []rune{0x10000}},
	{"\xf4\x8f\xbf\xbf", []rune{0x10ffff}},
	{"\xef\xbb\xbfa", []rune{0xfeff, 'a'}},
	{"\xef\xbf\xbd", []rune{0xfffd}},
	{"\xef\xbf\xbd\xef\xbf\xbd", []rune{0xfffd, 0xfffd}},
	{"a\xef\xbf\xbdb", []rune{'a', 0xfffd, 'b'}},
	{"\xef\xbf\xbc\xef\xbf\xbd\xef\xbf\xbe", []rune{0xfffc, 0xfffd, 0xfffe}},
}

// noTexts have a byte that begins no letter, or is 0: the first one is at; and all of their letters.
var noTexts = []struct {
	s    string
	at   int
	want []rune
}{
	// A byte 0.
	{"\x00", 0, []rune{0}},
	{"\x00ab", 0, []rune{0, 'a', 'b'}},
	{"a\x00b", 1, []rune{'a', 0, 'b'}},
	{"ab\x00", 2, []rune{'a', 'b', 0}},
	{"\u00e9\x00", 2, []rune{0xe9, 0}},
	{"\u20ac\x00\x00", 3, []rune{0x20ac, 0, 0}},
	{"\U0001f600\x00a", 4, []rune{0x1f600, 0, 'a'}},
	// A byte that only goes on.
	{"\x80", 0, []rune{0xfffd}},
	{"\xbf", 0, []rune{0xfffd}},
	{"a\x80", 1, []rune{'a', 0xfffd}},
	{"a\x9fb", 1, []rune{'a', 0xfffd, 'b'}},
	{"\u00e9\xa9", 2, []rune{0xe9, 0xfffd}},
	{"\u20ac\xac\xac", 3, []rune{0x20ac, 0xfffd, 0xfffd}},
	{"\U0001f600\x80", 4, []rune{0x1f600, 0xfffd}},
	// A letter that is cut short at the end.
	{"\xc3", 0, []rune{0xfffd}},
	{"a\xc3", 1, []rune{'a', 0xfffd}},
	{"\xe2", 0, []rune{0xfffd}},
	{"\xe2\x82", 0, []rune{0xfffd, 0xfffd}},
	{"ab\xe2\x82", 2, []rune{'a', 'b', 0xfffd, 0xfffd}},
	{"\xf0", 0, []rune{0xfffd}},
	{"\xf0\x9f", 0, []rune{0xfffd, 0xfffd}},
	{"\xf0\x9f\x98", 0, []rune{0xfffd, 0xfffd, 0xfffd}},
	{"\u00e9\xf0\x9f\x98", 2, []rune{0xe9, 0xfffd, 0xfffd, 0xfffd}},
	{"\xef", 0, []rune{0xfffd}},
	{"\xef\xbf", 0, []rune{0xfffd, 0xfffd}},
	{"\xef\xbf\xbd\xef\xbf", 3, []rune{0xfffd, 0xfffd, 0xfffd}},
	// A letter that is cut short within.
	{"\xc3a", 0, []rune{0xfffd, 'a'}},
	{"\xc3\xc3\xa9", 0, []rune{0xfffd, 0xe9}},
	{"\xe2a\x82", 0, []rune{0xfffd, 'a', 0xfffd}},
	{"\xe2\x82a", 0, []rune{0xfffd, 0xfffd, 'a'}},
	{"a\xe2\x82\xe2\x82\xac", 1, []rune{'a', 0xfffd, 0xfffd, 0x20ac}},
	{"\xf0\x9f\x98a", 0, []rune{0xfffd, 0xfffd, 0xfffd, 'a'}},
	{"\xf0\x9f\xef\xbf\xbd", 0, []rune{0xfffd, 0xfffd, 0xfffd}},
	{"\xef\xbfa", 0, []rune{0xfffd, 0xfffd, 'a'}},
	{"\xef\xbd", 0, []rune{0xfffd, 0xfffd}},
	// A letter that is written longer than it needs.
	{"\xc0\x80", 0, []rune{0xfffd, 0xfffd}},
	{"\xc0\xaf", 0, []rune{0xfffd, 0xfffd}},
	{"\xc1\xa1", 0, []rune{0xfffd, 0xfffd}},
	{"\xc1\xbf", 0, []rune{0xfffd, 0xfffd}},
	{"\xe0\x80\x80", 0, []rune{0xfffd, 0xfffd, 0xfffd}},
	{"\xe0\x81\xa1", 0, []rune{0xfffd, 0xfffd, 0xfffd}},
	{"a\xe0\x9f\xbf", 1, []rune{'a', 0xfffd, 0xfffd, 0xfffd}},
	{"\xf0\x80\x80\x80", 0, []rune{0xfffd, 0xfffd, 0xfffd, 0xfffd}},
	{"\xf0\x82\x82\xac", 0, []rune{0xfffd, 0xfffd, 0xfffd, 0xfffd}},
	{"\xf0\x8f\xbf\xbd", 0, []rune{0xfffd, 0xfffd, 0xfffd, 0xfffd}},
	{"\xf0\x8f\xbf\xbfa", 0, []rune{0xfffd, 0xfffd, 0xfffd, 0xfffd, 'a'}},
	// A surrogate.
	{"\xed\xa0\x80", 0, []rune{0xfffd, 0xfffd, 0xfffd}},
	{"a\xed\xaf\xbf", 1, []rune{'a', 0xfffd, 0xfffd, 0xfffd}},
	{"\xed\xb0\x80", 0, []rune{0xfffd, 0xfffd, 0xfffd}},
	{"\xed\xbf\xbfa", 0, []rune{0xfffd, 0xfffd, 0xfffd, 'a'}},
	{"\xed\xa0\xbd\xed\xb8\x80", 0, []rune{0xfffd, 0xfffd, 0xfffd, 0xfffd, 0xfffd, 0xfffd}},
	// One above U+10FFFF.
	{"\xf4\x90\x80\x80", 0, []rune{0xfffd, 0xfffd, 0xfffd, 0xfffd}},
	{"a\xf4\xbf\xbf\xbf", 1, []rune{'a', 0xfffd, 0xfffd, 0xfffd, 0xfffd}},
	{"\xf5\x80\x80\x80", 0, []rune{0xfffd, 0xfffd, 0xfffd, 0xfffd}},
	{"\xf7\xbf\xbf\xbf", 0, []rune{0xfffd, 0xfffd, 0xfffd, 0xfffd}},
	{"\xf8\x88\x80\x80\x80", 0, []rune{0xfffd, 0xfffd, 0xfffd, 0xfffd, 0xfffd}},
	{"\xfc\x84\x80\x80\x80\x80", 0, []rune{0xfffd, 0xfffd, 0xfffd, 0xfffd, 0xfffd, 0xfffd}},
	// Bytes that no letter has.
	{"\xc0", 0, []rune{0xfffd}},
	{"a\xc1", 1, []rune{'a', 0xfffd}},
	{"\xf5", 0, []rune{0xfffd}},
	{"ab\xff", 2, []rune{'a', 'b', 0xfffd}},
	{"\xfe\xff", 0, []rune{0xfffd, 0xfffd}},
	{"\xff\u20ac", 0, []rune{0xfffd, 0x20ac}},
	// The first of several is told, whatever kinds they are of.
	{"a\x00\xff", 1, []rune{'a', 0, 0xfffd}},
	{"a\xff\x00", 1, []rune{'a', 0xfffd, 0}},
	{"\u00e9\xffa\xff", 2, []rune{0xe9, 0xfffd, 'a', 0xfffd}},
	{"\u20aca\xe2\x82\x00\xed\xa0\x80", 4, []rune{0x20ac, 'a', 0xfffd, 0xfffd, 0, 0xfffd, 0xfffd, 0xfffd}},
	// U+FFFD written as itself is passed over.
	{"\xef\xbf\xbd\xff", 3, []rune{0xfffd, 0xfffd}},
	{"\xef\xbf\xbd\x00\xef\xbf\xbd", 3, []rune{0xfffd, 0, 0xfffd}},
	{"\xff\xef\xbf\xbd", 0, []rune{0xfffd, 0xfffd}},
	{"a\xef\xbf\xbd\xef\xbf\xbd\x80\xef\xbf\xbd", 7, []rune{'a', 0xfffd, 0xfffd, 0xfffd, 0xfffd}},
}

// far are letters that a name, or a blank, may seem to have, and numbers that are no letter.
var far = []rune{
	0x80, 0x85, 0xa0, 0xaa, 0xb2, 0xb5, 0xba, 0xe9, 0x17f, 0x131, 0x161, 0x141, 0x15f, 0x130, 0x120, 0x10a, 0x3b1, 0x430,
	0x661, 0x966, 0x1680, 0x2003, 0x2028, 0x203f, 0x2040, 0x212a, 0x2160, 0x3000, 0xfe4d, 0xfeff, 0xff10, 0xff21, 0xff3f, 0xff41,
	0xd7ff, 0xd800, 0xdfff, 0xe000, 0xfffc, 0xfffd, 0xfffe, 0xffff, 0x10000, 0x10061, 0x10041, 0x1005f, 0x10030, 0x10020, 0x1d41a, 0x1d7d8,
	0x10ffff, 0x110000, 0x1000061, 0x1000030, 0x1000020, 0x40000061,
	-1, -2, -9, -10, -32, -48, -65, -95, -97, -122, -159, -191, -161, -208, -224, -0xff9f,
	math.MaxInt32, math.MaxInt32 - 1, math.MinInt32, math.MinInt32 + 1, math.MinInt32 + 'a', math.MinInt32 + 'A', math.MinInt32 + '_',
	math.MinInt32 + '0', math.MinInt32 + ' ', math.MinInt32 + '\t', math.MinInt32 + '\n',
}

const (
	firsts = "abcdefghijklmnopqrstuvwxyzABCDEFGHIJKLMNOPQRSTUVWXYZ_"
	digits = "0123456789"
	blanks = " \t\n"
)

// among tells whether all is ASCII letters of which r is one.
func among(all string, r rune) bool {
	for i := range len(all) {
		if rune(all[i]) == r {
			return true
		}
	}
	return false
}

// letter is the letter that bytes begin with, and how many of them it has; 0: they begin with none.
func letter(b []byte) (r rune, size int) {
	var least rune
	switch x := b[0]; {
	case x < 0x80:
		return rune(x), 1
	case x>>5 == 6:
		r, size, least = rune(x&0x1f), 2, 0x80
	case x>>4 == 14:
		r, size, least = rune(x&0xf), 3, 0x800
	case x>>3 == 30:
		r, size, least = rune(x&7), 4, 0x10000
	default:
		return 0, 0
	}
	if size > len(b) {
		return 0, 0
	}
	for _, x := range b[1:size] {
		if x>>6 != 2 {
			return 0, 0
		}
		r = r<<6 | rune(x&0x3f)
	}
	if r < least || r > 0x10ffff || r >= 0xd800 && r < 0xe000 {
		return 0, 0
	}
	return r, size
}

// model is what Valid and Runes answer, byte by byte.
func model(s string) (at int, ok bool, l []rune) {
	at, ok = len(s), true
	b := []byte(s)
	for i := 0; i < len(b); {
		r, size := letter(b[i:])
		if size == 0 {
			r = 0xfffd
		}
		if ok && (size == 0 || r == 0) {
			at, ok = i, false
		}
		l = append(l, r)
		i += max(size, 1)
	}
	return at, ok, l
}

// isName is what Name answers, byte by byte.
func isName(s string) bool {
	for i := range len(s) {
		if !among(firsts, rune(s[i])) && (i == 0 || !among(digits, rune(s[i]))) {
			return false
		}
	}
	return len(s) >= 1 && len(s) <= 12
}

// check holds all that is answered of a text against what it should be.
func check(t *testing.T, s string, at int, ok bool, want []rune) {
	t.Helper()
	if gotAt, gotOK := glyph.Valid(s); gotAt != at || gotOK != ok {
		t.Errorf("Valid(%.40q) = %d, %v, want %d, %v", s, gotAt, gotOK, at, ok)
	}
	if got := glyph.Runes(s); !slices.Equal(got, want) {
		t.Errorf("Runes(%.40q) = %.20x, want %.20x", s, got, want)
	}
	if got := glyph.Count(s); got != len(want) || got > len(s) {
		t.Errorf("Count(%.40q) = %d, want %d", s, got, len(want))
	}
	if got := glyph.Name(s); got != isName(s) {
		t.Errorf("Name(%.40q) = %v", s, got)
	}
}

// checkByModel is check with what the model says.
func checkByModel(t *testing.T, s string) {
	t.Helper()
	at, ok, l := model(s)
	check(t, s, at, ok, l)
}

func TestExampleOfTheChapter(t *testing.T) {
	if n := glyph.Count("\u00e91"); n != 2 {
		t.Errorf("Count = %d", n)
	}
	if glyph.Name("\u00e91") {
		t.Error("it is a name")
	}
}

func TestTexts(t *testing.T) {
	for _, c := range texts {
		check(t, c.s, len(c.s), true, c.want)
		checkByModel(t, c.s)
	}
}

func TestNoTexts(t *testing.T) {
	for _, c := range noTexts {
		check(t, c.s, c.at, false, c.want)
		checkByModel(t, c.s)
	}
}

func TestTextsBesideOthers(t *testing.T) {
	for _, one := range texts {
		for _, other := range texts {
			s := one.s + other.s
			check(t, s, len(s), true, slices.Concat(one.want, other.want))
		}
		for _, other := range noTexts {
			check(t, one.s+other.s, len(one.s)+other.at, false, slices.Concat(one.want, other.want))
			// A text begins with no byte that only goes on: so what is ahead of it stays cut short.
			check(t, other.s+one.s, other.at, false, slices.Concat(other.want, one.want))
		}
	}
}

func TestNoTextsBesideOthers(t *testing.T) {
	for _, one := range noTexts {
		for _, other := range noTexts {
			checkByModel(t, one.s+other.s)
			if at, ok := glyph.Valid(one.s + "|" + other.s); at != one.at || ok {
				t.Errorf("Valid(%q and %q) = %d, %v", one.s, other.s, at, ok)
			}
		}
	}
}

func TestEachLetter(t *testing.T) {
	for r := rune(1); r <= 0x10ffff; r++ {
		if r >= 0xd800 && r < 0xe000 {
			continue
		}
		s := "<" + string(r) + ">"
		if at, ok := glyph.Valid(s); at != len(s) || !ok {
			t.Fatalf("Valid(%q) = %d, %v", s, at, ok)
		}
		if l := glyph.Runes(s); len(l) != 3 || l[0] != '<' || l[1] != r || l[2] != '>' || glyph.Count(s) != 3 {
			t.Fatalf("Runes(%q) = %x, Count %d", s, l, glyph.Count(s))
		}
		if s = string(r); glyph.Name(s) != among(firsts, r) {
			t.Fatalf("Name(%q) = %v", s, glyph.Name(s))
		}
	}
}

func TestEachSurrogate(t *testing.T) {
	for r := 0xd800; r < 0xe000; r++ {
		s := "<" + string([]byte{0xed, byte(0x80 | r>>6&0x3f), byte(0x80 | r&0x3f)}) + ">"
		check(t, s, 1, false, []rune{'<', 0xfffd, 0xfffd, 0xfffd, '>'})
	}
}

func TestAllOfTwoBytes(t *testing.T) {
	for i := range 256 {
		checkByModel(t, string([]byte{byte(i)}))
		for j := range 256 {
			checkByModel(t, string([]byte{byte(i), byte(j)}))
		}
	}
}

func TestRowsOfEdgeBytes(t *testing.T) {
	edges := "\x00a\x7f\x80\x8f\x90\x9f\xa0\xbd\xbf\xc0\xc1\xc2\xdf\xe0\xe1\xed\xee\xef\xf0\xf1\xf4\xf5\xff"
	n := len(edges)
	for i := range n * n * n * n {
		row := string([]byte{edges[i%n], edges[i/n%n], edges[i/n/n%n], edges[i/n/n/n]})
		checkByModel(t, row)
		if i < n*n*n {
			checkByModel(t, row[:3])
		}
	}
}

func TestCutAnywhere(t *testing.T) {
	whole := "a\u00e9\u20ac\ufffd\U0001f600_\u07ff\uffff\U0010ffff9"
	begins := map[int]bool{len(whole): true}
	for i := range whole {
		begins[i] = true
	}
	for i := range len(whole) + 1 {
		for j := i; j <= len(whole); j++ {
			checkByModel(t, whole[i:j])
			_, ok := glyph.Valid(whole[i:j])
			if want := i == j || begins[i] && begins[j]; ok != want {
				t.Errorf("Valid(%q) is %v", whole[i:j], ok)
			}
		}
	}
}

func TestLongTexts(t *testing.T) {
	many := strings.Repeat("a\u00e9\u20ac\ufffd\U0001f600", 1<<14)
	letters := 5 << 14
	for behind, ok := range map[string]bool{"": true, "a": true, "\u00e9": true, "\x00": false, "\xff": false, "\x80": false, "\xe2": false} {
		s := many + behind
		at := len(many)
		if ok {
			at = len(s)
		}
		if gotAt, gotOK := glyph.Valid(s); gotAt != at || gotOK != ok {
			t.Errorf("Valid of many and %q = %d, %v, want %d, %v", behind, gotAt, gotOK, at, ok)
		}
		want := letters + min(len(behind), 1)
		if glyph.Count(s) != want || len(glyph.Runes(s)) != want {
			t.Errorf("many and %q: Count %d, %d Runes, want %d", behind, glyph.Count(s), len(glyph.Runes(s)), want)
		}
		if glyph.Name(s) {
			t.Errorf("many and %q are a name", behind)
		}
	}
	checkByModel(t, strings.Repeat("\xff", 1<<16))
	checkByModel(t, strings.Repeat("\x00", 1<<16))
	checkByModel(t, strings.Repeat("\xe2\x82", 1<<16))
	checkByModel(t, strings.Repeat("a", 1<<16))
}

func TestCountIsNoMoreThanTheBytes(t *testing.T) {
	for _, s := range []string{"", "a", "\xff", "\x00", "\xe2\x82", "\xf0\x9f\x98", "\xf4\x90\x80\x80", "\xc0\x80", "\ufffd", "\xff\xff\xff\xff\xff"} {
		for times := range 5 {
			long := strings.Repeat(s, times)
			if n := glyph.Count(long); n > len(long) || n != len(glyph.Runes(long)) {
				t.Errorf("Count(%q) = %d of %d bytes", long, n, len(long))
			}
		}
	}
}

// checkLetter holds what is answered of a letter against the lists.
func checkLetter(t *testing.T, r rune) {
	t.Helper()
	first := among(firsts, r)
	if got := glyph.First(r); got != first {
		t.Errorf("First(%#x) = %v", r, got)
	}
	if got, want := glyph.More(r), first || among(digits, r); got != want {
		t.Errorf("More(%#x) = %v", r, got)
	}
	if got, want := glyph.Blank(r), among(blanks, r); got != want {
		t.Errorf("Blank(%#x) = %v", r, got)
	}
}

func TestLetterKinds(t *testing.T) {
	for r := rune(-1 << 10); r <= 0x400; r++ {
		checkLetter(t, r)
	}
	for _, r := range far {
		checkLetter(t, r)
	}
	firstOnes, moreOnes, blankOnes := 0, 0, 0
	for r := rune(-1 << 17); r <= 1<<21; r++ {
		if glyph.First(r) {
			firstOnes++
		}
		if glyph.More(r) {
			moreOnes++
		}
		if glyph.Blank(r) {
			blankOnes++
		}
	}
	if firstOnes != 53 || moreOnes != 63 || blankOnes != 3 {
		t.Errorf("%d First, %d More, %d Blank", firstOnes, moreOnes, blankOnes)
	}
}

func TestLettersBesideTheRanges(t *testing.T) {
	for _, c := range []struct {
		r                  rune
		first, more, blank bool
	}{
		{'a', true, true, false}, {'z', true, true, false}, {'a' - 1, false, false, false}, {'z' + 1, false, false, false},
		{'A', true, true, false}, {'Z', true, true, false}, {'A' - 1, false, false, false}, {'Z' + 1, false, false, false},
		{'_', true, true, false}, {'_' - 1, false, false, false},
		{'0', false, true, false}, {'9', false, true, false}, {'0' - 1, false, false, false}, {'9' + 1, false, false, false},
		{' ', false, false, true}, {' ' - 1, false, false, false}, {' ' + 1, false, false, false},
		{'\t', false, false, true}, {'\t' - 1, false, false, false},
		{'\n', false, false, true}, {'\n' + 1, false, false, false}, {'\r', false, false, false},
		{0, false, false, false}, {127, false, false, false}, {128, false, false, false}, {-1, false, false, false},
	} {
		if glyph.First(c.r) != c.first || glyph.More(c.r) != c.more || glyph.Blank(c.r) != c.blank {
			t.Errorf("%#x: First %v, More %v, Blank %v", c.r, glyph.First(c.r), glyph.More(c.r), glyph.Blank(c.r))
		}
	}
}

func TestNames(t *testing.T) {
	for _, s := range []string{
		"a", "z", "A", "Z", "_", "a0", "_9", "__", "aB_9", "x1y2", "ab", "IFS", "PATH", "_Z9",
		"abcdefghijkl", "A23456789012", "____________", "_00000000000", "zzzzzzzzzzzZ",
	} {
		if !glyph.Name(s) {
			t.Errorf("%q is no name", s)
		}
	}
	for _, s := range []string{
		"", " ", "0", "9", "9a", "0_", "1", "12", "-", "-a", "a-", "a-b", "a b", " a", "a ", "a\n", "a\tb", "\na",
		"@", "#", "?", "$a", "a=", "a=b", "{a}", "a.b", "a/b", "!", "*", "a*", "`", "[", "^", "a[", "a`", "a{", "a@", "a:", "a/",
		"\x00", "a\x00", "\x00a", "a\x00b", "\xff", "a\xff", "\xffa", "\x80", "a\xe2\x82", "\xed\xa0\x80", "\xc1\xa1", "a\xc1\xa1",
		"\u00e9", "\u00e91", "a\u00e9", "\ufffd", "a\ufffd", "\u212a", "\u017f", "a\u0661", "\uff41", "a\uff10", "\U0001d41a", "a\u00aa", "\ufeffa",
		"0bcdefghijkl", "\u00e9bcdefghijk", "\u00e9bcdefghijkl", "abcdefghijk\u00e9", "abcdefghij\u00e9", strings.Repeat("\u00e9", 12),
		"abcdefghijklm", "abcdefghijkl ", "abcdefghijkl\x00", "abcdefghijkl\xff", "abcdefghijkl0", "_____________", "0bcdefghijklm",
		strings.Repeat("a", 24), strings.Repeat("a", 256), strings.Repeat("a", 257), strings.Repeat("a", 256+12), strings.Repeat("a", 1<<16+1),
	} {
		if glyph.Name(s) {
			t.Errorf("%.40q is a name", s)
		}
	}
}

func TestNamesOfEachLength(t *testing.T) {
	if api.MaxName != 12 {
		t.Fatalf("MaxName is %d", api.MaxName)
	}
	for size := range 2000 {
		want := size >= 1 && size <= api.MaxName
		for _, c := range "aZ_" {
			s := strings.Repeat(string(c), size)
			if glyph.Name(s) != want {
				t.Errorf("%d letters %q: %v", size, c, !want)
			}
			if size > 0 && glyph.Name("b"+s[1:]) != want {
				t.Errorf("b and %d letters %q: %v", size-1, c, !want)
			}
		}
		if size > 0 && glyph.Name("a"+strings.Repeat("9", size-1)) != want {
			t.Errorf("a letter and %d digits: %v", size-1, !want)
		}
		if glyph.Name(strings.Repeat("9", size)) {
			t.Errorf("%d digits are a name", size)
		}
	}
}

func TestEachLetterAtEachPlaceOfAName(t *testing.T) {
	name := "aB3_dEf8hiJk"
	letters := slices.Clone(far)
	for r := range rune(256) {
		letters = append(letters, r)
	}
	for size := 1; size <= len(name); size++ {
		for at := range size {
			for _, r := range letters {
				s := name[:at] + string(r) + name[at+1:size]
				want := among(firsts, r) || at > 0 && among(digits, r)
				if glyph.Name(s) != want {
					t.Errorf("Name(%q) = %v", s, !want)
				}
			}
			for x := 0x80; x < 256; x++ {
				if s := name[:at] + string([]byte{byte(x)}) + name[at+1:size]; glyph.Name(s) {
					t.Errorf("Name(%q) = true", s)
				}
			}
		}
	}
}

func TestAnswersAreNewMemory(t *testing.T) {
	for _, c := range texts {
		one, other := glyph.Runes(c.s), glyph.Runes(c.s)
		spare := one[:cap(one)]
		for i := range spare {
			spare[i] = '!'
		}
		if !slices.Equal(other, c.want) {
			t.Errorf("Runes(%q) became %x", c.s, other)
		}
		other = other[:cap(other)]
		if slices.Contains(other[len(c.want):], '!') {
			t.Errorf("Runes(%q) shares its spare room", c.s)
		}
		check(t, c.s, len(c.s), true, c.want)
	}
}

func TestAnswersStay(t *testing.T) {
	type answer struct {
		s string
		l []rune
	}
	var all []answer
	for _, c := range texts {
		all = append(all, answer{c.s, glyph.Runes(c.s)})
	}
	for _, c := range noTexts {
		all = append(all, answer{c.s, glyph.Runes(c.s)})
	}
	for range 2 {
		for _, a := range all {
			_, _, want := model(a.s)
			if !slices.Equal(a.l, want) {
				t.Errorf("Runes(%q) became %x", a.s, a.l)
			}
		}
		// What is appended to one answer goes into no other one.
		for _, a := range all {
			_ = append(a.l, '!', '!', '!', '!')
		}
	}
}

func FuzzGlyph(f *testing.F) {
	for _, c := range texts {
		f.Add(c.s)
	}
	for _, c := range noTexts {
		f.Add(c.s)
	}
	f.Fuzz(func(t *testing.T, s string) {
		checkByModel(t, s)
		if !slices.Equal(glyph.Runes(s), []rune(s)) {
			t.Errorf("Runes(%q) are not those of a range", s)
		}
		for _, r := range glyph.Runes(s) {
			checkLetter(t, r)
		}
	})
}

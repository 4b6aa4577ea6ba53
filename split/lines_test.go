package split_test

import (
	"slices"
	"strings"
	"testing"

	"lazarus/split"
)

func TestLines(t *testing.T) {
	for _, c := range []struct {
		s, line, rest string
		ok            bool
	}{
		{"", "", "", false},
		{"\n", "", "", true},
		{"a", "a", "", true},
		{"abc", "abc", "", true},
		{"a\n", "a", "", true},
		{"\na", "", "a", true},
		{"a\nb", "a", "b", true},
		{"a\nb\n", "a", "b\n", true},
		{"a\nb\nc", "a", "b\nc", true},
		{"\n\n", "", "\n", true},
		{"\n\n\n", "", "\n\n", true},
		{"a\n\nb", "a", "\nb", true},
		{"\n\na", "", "\na", true},
		{"a\n\n", "a", "\n", true},
		{"\na\n", "", "a\n", true},
		{" ", " ", "", true},
		{" a b \n c ", " a b ", " c ", true},
		{"\ta\t\n\t", "\ta\t", "\t", true},
		{"a\r\nb\r\n", "a\r", "b\r\n", true},
		{"\r\n", "\r", "", true},
		{"\n\r", "", "\r", true},
		{"a\rb", "a\rb", "", true},
		{"\r", "\r", "", true},
		{"a\vb\fc", "a\vb\fc", "", true},
		{"a\\nb", `a\nb`, "", true},
		{"\u00e9\n\u20ac", "\u00e9", "\u20ac", true},
		{"\u0085a\u2028b\u2029c", "\u0085a\u2028b\u2029c", "", true},
		{"\u010a\u0a0a\u240a", "\u010a\u0a0a\u240a", "", true},
		{"\U0001f600\n", "\U0001f600", "", true},
		{"\x00", "\x00", "", true},
		{"\x00\n\x00", "\x00", "\x00", true},
		{"\xff", "\xff", "", true},
		{"\xff\n\xfe", "\xff", "\xfe", true},
		{"\xc3\n\xa9", "\xc3", "\xa9", true},
		{"\xe2\x82\n\xac", "\xe2\x82", "\xac", true},
		{"\xc0\x8a", "\xc0\x8a", "", true},
		{"\x8a\xff", "\x8a\xff", "", true},
	} {
		if line, rest, ok := split.Lines(c.s); line != c.line || rest != c.rest || ok != c.ok {
			t.Errorf("%q: %q, %q, %v; want %q, %q, %v", c.s, line, rest, ok, c.line, c.rest, c.ok)
		}
	}
}

// lineByLine holds that all lines of a text, one after the other, are all of it.
func lineByLine(t *testing.T, s string) int {
	t.Helper()
	want := modelLines(s)
	left, again := s, ""
	for i, w := range want {
		line, rest, ok := split.Lines(left)
		if !ok || line != w || strings.Contains(line, "\n") || len(rest) >= len(left) {
			t.Fatalf("%.100q, line %d: %.100q, %.100q, %v; want %.100q", s, i, line, rest, ok, w)
		}
		again += line
		// All but a last line that has no line feed take one.
		if len(line)+len(rest) < len(left) {
			again += "\n"
		}
		left = rest
	}
	if line, rest, ok := split.Lines(left); line != "" || rest != "" || ok || left != "" || again != s {
		t.Fatalf("%.100q: left %.100q, in all %.100q", s, left, again)
	}
	return len(want)
}

func TestLineByLineItIsAllOfIt(t *testing.T) {
	n := texts([]string{"a", "\n", "\r", " ", "\u00e9", "\xff", "\x00"}, 6, func(s string) { lineByLine(t, s) })
	n += texts([]string{"\n", "ab", "\x8a"}, 9, func(s string) { lineByLine(t, s) })
	if n < 100000 {
		t.Error(n)
	}
	for s, want := range map[string]int{"": 0, "a": 1, "\n": 1, "a\n": 1, "\na": 2, "\n\n": 2, "a\nb\n": 2, "a\nb\nc": 3} {
		if n := lineByLine(t, s); n != want {
			t.Errorf("%q: %d", s, n)
		}
	}
	for _, size := range []int{1, 100, 2000} {
		for _, s := range []string{"ab\n", "\n", "\n\u00e9", "\r\n", "a"} {
			lineByLine(t, strings.Repeat(s, size))
			lineByLine(t, "x"+strings.Repeat(s, size)+"y")
		}
	}
}

func TestALongLine(t *testing.T) {
	long := strings.Repeat("a\u00e9\xff ", 1<<18)
	for _, c := range [][3]string{{long, long, ""}, {long + "\n", long, ""}, {"\n" + long, "", long}, {long + "\n" + long + "\n", long, long + "\n"}} {
		if line, rest, ok := split.Lines(c[0]); line != c[1] || rest != c[2] || !ok {
			t.Error(len(c[0]), len(line), len(rest), ok)
		}
	}
}

func TestWords(t *testing.T) {
	for _, c := range []struct {
		s    string
		want []string
	}{
		{"", nil},
		{" ", nil},
		{"\t", nil},
		{"\n", nil},
		{" \t\n \n\t", nil},
		{"a", []string{"a"}},
		{"abc", []string{"abc"}},
		{" a", []string{"a"}},
		{"a ", []string{"a"}},
		{" a ", []string{"a"}},
		{"\t a\n\n", []string{"a"}},
		{"a b", []string{"a", "b"}},
		{"a\tb", []string{"a", "b"}},
		{"a\nb", []string{"a", "b"}},
		{"a  b", []string{"a", "b"}},
		{"a \t\n \nb", []string{"a", "b"}},
		{"  ab\tcd\nef gh\t", []string{"ab", "cd", "ef", "gh"}},
		{"a a a", []string{"a", "a", "a"}},
		{"\ta  b\n\nc\r ", []string{"a", "b", "c\r"}},
		{"a\rb", []string{"a\rb"}},
		{"a\r\nb", []string{"a\r", "b"}},
		{"a\vb\fc\u0085d\u00a0e\u2003f\u3000g", []string{"a\vb\fc\u0085d\u00a0e\u2003f\u3000g"}},
		{"\r", []string{"\r"}},
		{"\u00a0 \u00a0", []string{"\u00a0", "\u00a0"}},
		{"\u00e9 \u20ac\t\U0001f600\n\u0301", []string{"\u00e9", "\u20ac", "\U0001f600", "\u0301"}},
		{"\u0120\u0109\u010a\u2020", []string{"\u0120\u0109\u010a\u2020"}},
		{"\x00", []string{"\x00"}},
		{"\x00 \x00\x00", []string{"\x00", "\x00\x00"}},
		{"\xff", []string{"\xff"}},
		{"\xff \xfe\xff\t", []string{"\xff", "\xfe\xff"}},
		{"\xc3 \xa9", []string{"\xc3", "\xa9"}},
		{" \xe2\x82\n\xac", []string{"\xe2\x82", "\xac"}},
		{"\xc0\xa0\xe0\x80\x8a", []string{"\xc0\xa0\xe0\x80\x8a"}},
		{"\xa0 \x85", []string{"\xa0", "\x85"}},
		{"\ufffd \xff", []string{"\ufffd", "\xff"}},
		{`"a b" 'c`, []string{`"a`, `b"`, `'c`}},
		{`a\ b`, []string{`a\`, "b"}},
	} {
		if got := split.Words(c.s); !slices.Equal(got, c.want) {
			t.Errorf("%+q: %+q; want %+q", c.s, got, c.want)
		}
		if got := modelWords(c.s); !slices.Equal(got, c.want) {
			t.Errorf("the model: %+q: %+q; want %+q", c.s, got, c.want)
		}
	}
}

func TestWordsOfAllShortTexts(t *testing.T) {
	check := func(s string) {
		if got, want := split.Words(s), modelWords(s); !slices.Equal(got, want) {
			t.Errorf("%+q: %+q; want %+q", s, got, want)
		}
	}
	n := texts([]string{"a", " ", "\t", "\n", "\r", "\u00a0", "\xff"}, 6, check)
	n += texts([]string{" ", "b", "\u00e9"}, 9, check)
	n += texts([]string{" ", "\xe2", "\x82", "\xac", "\x00"}, 6, check)
	if n < 100000 {
		t.Error(n)
	}
}

func TestManyWords(t *testing.T) {
	const size = 1 << 17
	for _, c := range []struct {
		s, each string
		n       int
	}{
		{strings.Repeat("a\u00e9\xff \n", size), "a\u00e9\xff", size},
		{strings.Repeat("\t b", size), "b", size},
		{strings.Repeat(" ", size), "", 0},
		{strings.Repeat("ab", size), strings.Repeat("ab", size), 1},
		{strings.Repeat(" ", size) + "a", "a", 1},
		{"a" + strings.Repeat("\n", size), "a", 1},
	} {
		l := split.Words(c.s)
		if len(l) != c.n {
			t.Errorf("%.20q: %d; want %d", c.s, len(l), c.n)
		}
		for i, s := range l {
			if s != c.each {
				t.Fatalf("%.20q: word %d is %.20q", c.s, i, s)
			}
		}
	}
}

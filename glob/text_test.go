package glob_test

import (
	"math"
	"slices"
	"strings"
	"testing"

	"lazarus/api"
	"lazarus/glob"
)

// texts are ordinary ones and the edges, also bytes that are no text.
var texts = []string{
	"", "a", "ab", "a b\t\n", "*", "?", "[", "[a-c]", "a*[!b-d]", "]", "!", "-", `\`, `\*`, "\"'$",
	"\x00", "a\x00b", "\x00\x00", "\x7f", "\u0080", "\u00e9", "\u07ff\u0800", "\u20ac", "\ufffd", "\uffff", "\U00010000", "\U0001f600", "\U0010ffff", "e\u0301", "\ufeffa",
	"\xff", "\x80", "\xc3", "\xc3a", "\xe2\x82", "\xe2\x82\xac\x82", "\xf0\x9f\x98", "\xed\xa0\x80", "\xc0\x80", "\xf4\x90\x80\x80", "a\xffb", "\xff\xff\xff", "\xef\xbf\xbd\xff",
	strings.Repeat("a\u00e9\u20ac\U0001f600\xff\x00", 1<<14),
}

func TestCharsAndTextEachWayRound(t *testing.T) {
	for _, s := range texts {
		for _, quoted := range []bool{false, true} {
			l := glob.Chars(s, quoted)
			if !slices.Equal(l, letters(s, quoted)) {
				t.Errorf("Chars(%.40q, %v) = %.40v", s, quoted, l)
			}
			if got := glob.Text(l); got != plain(s) {
				t.Errorf("Text of Chars(%.40q, %v) = %.40q", s, quoted, got)
			}
			if again := glob.Chars(glob.Text(l), quoted); !slices.Equal(again, l) {
				t.Errorf("Chars of Text of Chars(%.40q, %v) = %.40v", s, quoted, again)
			}
		}
	}
}

func TestCharsOfEachLetter(t *testing.T) {
	for r := rune(0); r <= 0x10ffff; r++ {
		if r >= 0xd800 && r < 0xe000 {
			continue
		}
		quoted := r%2 == 0
		if l := glob.Chars(string(r), quoted); len(l) != 1 || l[0] != (api.Char{R: r, Q: quoted}) || glob.Text(l) != string(r) {
			t.Fatalf("Chars(%q) = %v", r, l)
		}
	}
	for b := range 256 {
		s := string([]byte{byte(b)})
		if l := glob.Chars(s, true); !slices.Equal(l, letters(s, true)) || len(l) != 1 {
			t.Errorf("Chars(%q) = %v", s, l)
		}
	}
}

func TestText(t *testing.T) {
	for _, c := range []struct{ p, want string }{
		{``, ""}, {`a`, "a"}, {`\a`, "a"}, {`a\bc`, "abc"}, {`*?[`, "*?["}, {`\*\?\[`, "*?["}, {`a*[!b-d]`, "a*[!b-d]"}, {`\[a]`, "[a]"}, {`[a-\]]`, "[a-]]"}, {`\\`, `\`},
		{"\u00e9\\\u20ac", "\u00e9\u20ac"}, {"\x00\\\x00", "\x00\x00"}, {"\xff\\\xff", "\ufffd\ufffd"}, {" \n", " \n"},
	} {
		if got := glob.Text(pat(c.p)); got != c.want {
			t.Errorf("Text(%q) = %q; want %q", c.p, got, c.want)
		}
	}
	mixed := []api.Char{{R: 'a'}, {R: 0}, {R: 0, Q: true}, {R: 0x1f600, Q: true}, {R: 0xfffd}, {R: '*'}}
	if got := glob.Text(mixed); got != "a\x00\x00\U0001f600\ufffd*" {
		t.Errorf("%q", got)
	}
}

func TestHas(t *testing.T) {
	for p, want := range map[string]bool{
		``: false, `a`: false, `\a`: false, `abc`: false, `]`: false, `!`: false, `-`: false, `ab]!-`: false, `!a-b]`: false, `^`: false, `.+$|(){}`: false, ` `: false, "\u00e9\u20ac\U0001f600": false, "\x00": false, "\xff": false,
		`*`: true, `?`: true, `[`: true, `\*`: false, `\?`: false, `\[`: false, `\*\?\[`: false,
		`*a`: true, `a*`: true, `a*b`: true, `?a`: true, `a?`: true, `a?b`: true, `[a`: true, `a[`: true, `a[b`: true, `[a]`: true, `[!`: true, `[]`: true, `x[`: true,
		`\*a`: false, `a\*`: false, `a\?b`: false, `\[a]`: false, `\[!a-b]`: false, `a\[]`: false,
		`\**`: true, `*\*`: true, `\*?`: true, `\*\?[`: true, `[\*`: true, `\[?]`: true, `\[*`: true, `**`: true, `*?[`: true, `[?*`: true, `\\*`: true,
		strings.Repeat("a", 1<<16): false, strings.Repeat("a", 1<<16) + "*": true, "?" + strings.Repeat("a", 1<<16): true, strings.Repeat(`\*`, 1<<16): false, strings.Repeat(`\*`, 1<<16) + "[": true,
	} {
		if got := glob.Has(pat(p)); got != want {
			t.Errorf("Has(%.40q) = %v", p, got)
		}
	}
	for r := rune(-300); r <= 0x110100; r++ {
		if got := glob.Has([]api.Char{{R: r}}); got != (r == '*' || r == '?' || r == '[') {
			t.Fatalf("Has of %x: %v", r, got)
		}
		if glob.Has([]api.Char{{R: r, Q: true}}) {
			t.Fatalf("Has of %x Quoted", r)
		}
	}
}

func TestWhatHasNoSignMatchesItsTextAlone(t *testing.T) {
	var l []string
	rows(``, `a!-]`, ``, 3, func(p []api.Char) { l = append(l, glob.Text(p)) })
	rows(``, `*?[`, ``, 3, func(p []api.Char) { l = append(l, glob.Text(p)) })
	l = append(l, "\x00", "\u00e9", "\ufffd", "a\u20ac", "[a]", "[!-]", "aaaa", "*a", "\u00e9\u00e9")
	for _, p := range l {
		for _, quoted := range []bool{true, false} {
			chars := letters(p, quoted)
			if glob.Has(chars) {
				continue
			}
			for _, s := range l {
				if got := glob.Match(chars, s); got != (s == p) {
					t.Errorf("%q, Quoted %v, of %q: %v", p, quoted, s, got)
				}
			}
		}
	}
	for _, s := range texts {
		if p := letters(s, true); !glob.Match(p, glob.Text(p)) || !glob.Match(p, s) || glob.Match(p, s+"a") || glob.Match(p, "a"+s) {
			t.Errorf("%.40q", s)
		}
	}
}

// noLetters are numbers that are no letter.
var noLetters = []rune{-1, -2, -'*', -'[', 0xd800, 0xdbff, 0xdc00, 0xdfff, 0x110000, 0x110000 + '*', 0x1000061, math.MaxInt32, math.MaxInt32 - 1, math.MinInt32, math.MinInt32 + '*', math.MinInt32 + '['}

func TestNumbersThatAreNoLetter(t *testing.T) {
	for _, r := range noLetters {
		for _, quoted := range []bool{false, true} {
			c := api.Char{R: r, Q: quoted}
			p := []api.Char{{R: 'a'}, c, {R: '-'}, c}
			if got := glob.Text(p); got != "a\ufffd-\ufffd" {
				t.Errorf("Text of %x: %q", r, got)
			}
			if glob.Has(p) || !glob.Match(p, glob.Text(p)) || glob.Match(p, "a*-*") || glob.Match(p, "aa-a") || glob.Match(p, "a-") {
				t.Errorf("%x", r)
			}
			for _, other := range append([]rune{'a', '!', ']', 0, 0xfffc, 0xfffd, 0x10ffff}, noLetters...) {
				for _, within := range [][]api.Char{{c}, {c, {R: '-'}, {R: other, Q: true}}, {{R: other, Q: true}, {R: '-'}, c}, {{R: '!'}, c}, {c, {R: other, Q: true}}} {
					checkAsNone(t, within)
					checkAsNone(t, slices.Concat([]api.Char{{R: '['}}, within, []api.Char{{R: ']'}}))
				}
			}
		}
	}
}

// checkAsNone holds that a pattern is as one that has U+FFFD for each number that is no letter.
func checkAsNone(t *testing.T, p []api.Char) {
	t.Helper()
	as := slices.Clone(p)
	for i, c := range as {
		if slices.Contains(noLetters, c.R) {
			as[i].R = 0xfffd
		}
	}
	m := modelOf(as)
	for _, s := range []string{"", "a", "\x00", "!", "*", "]", "\ufffd", "\xff", "\ufffc", "\ufffe", "\U00010000", "\U0010ffff", "\ud7ff", "\ue000", "\ufffd\ufffd", "a\xff", "\ufffda", "!\ufffd", "\ufffd-\xff", "\xff-a", "a-\xff"} {
		if got := glob.Match(p, s); got != m.matches(s) {
			t.Errorf("%v of %q: %v", p, s, got)
		}
	}
}

package glob_test

import (
	"strings"
	"testing"

	"lazarus/api"
	"lazarus/glob"
)

func TestExampleOfTheChapter(t *testing.T) {
	p := glob.Chars("a*[!b-d]", false)
	if !glob.Match(p, "axe") || glob.Match(p, "axc") {
		t.Error("a*[!b-d]")
	}
	yes(t, `a*[!b-d]`, "axe", "ae", "aa", "a\u00e9", "abcde", "axc\n", "add-", "a!", "a]", "a[")
	no(t, `a*[!b-d]`, "axc", "a", "", "ab", "ad", "exe", "xaxe", "xe", "aed", "e")
}

func TestTheEmptyPattern(t *testing.T) {
	yes(t, ``, "")
	no(t, ``, "a", " ", "\n", "\x00", "\xff", "\u00e9", "*", "aa")
}

func TestTheEmptyText(t *testing.T) {
	yes(t, `*`, "")
	yes(t, `**`, "")
	yes(t, `******`, "")
	for _, p := range []string{`a`, `\a`, `?`, `\?`, `\*`, `[`, `]`, `[a]`, `[!a]`, `*a`, `a*`, `*?`, `?*`, `*[a]`, `[!a]*`, `*\*`, `*[`, `[*]`, `[a-]`, `[b-a]`, `[!b-a]`, " ", `\ `, `!`, `-`} {
		no(t, p, "")
	}
}

func TestLetters(t *testing.T) {
	for _, p := range []string{`a`, `\a`} {
		yes(t, p, "a")
		no(t, p, "", "b", "A", "aa", "ab", "ba", " a", "a ", "\\a", "\u00e9", "a\u0301", "\x00", "a\x00", "a\xff", "\uff41")
	}
	yes(t, `abc`, "abc")
	yes(t, `a\bc`, "abc")
	no(t, `abc`, "", "ab", "abcd", "bc", "abd", "xbc", "axc", "cba", "aabc", "abcc", "abcabc", "ABC", "abc\n", "\nabc")
	yes(t, "\u00e9\u20ac\U0001f600", "\u00e9\u20ac\U0001f600")
	no(t, "\u00e9\u20ac\U0001f600", "\u00e9\u20ac\U0001f601", "\u00e9\u20ac", "e\u20ac\U0001f600", "\u00e8\u20ac\U0001f600", "\u00e9\u20ac\xf0\x9f\x98")
	no(t, "\u00e9", "e\u0301", "\xe9", "\xc3", "\xa9", "\u00c9", "e", "i")
	yes(t, "a b\t\n", "a b\t\n")
	no(t, "a b\t\n", "a b\t", "ab\t\n", "a  b\t\n")
	for _, s := range []string{"!", "-", "]", "]a", "a]", "!-", "]!-]", "/", ".", "^", "$", "+", "(a|b)", "{a,b}", "a.c", "~", "#", "&"} {
		yes(t, s, s)
		no(t, s, "", s+s, s+"a", "a"+s, "b")
	}
	yes(t, `\\`, `\`)
	no(t, `\\`, `\\`, "")
	no(t, `a.c`, "abc")
	no(t, `a+`, "aa", "a")
}

func TestSignsThatAreQuoted(t *testing.T) {
	yes(t, `\*`, "*")
	no(t, `\*`, "", "a", "**", "*a", `\*`)
	yes(t, `\?`, "?")
	no(t, `\?`, "", "a", "??")
	yes(t, `\[a]`, "[a]")
	no(t, `\[a]`, "a", "[a", "]", "[")
	yes(t, `\[!a\]`, "[!a]")
	no(t, `\[!a]`, "b", "a")
	yes(t, `a\*b`, "a*b")
	no(t, `a\*b`, "ab", "axb", "a**b")
	yes(t, `*\**`, "*", "a*", "*a", "a*b", "***")
	no(t, `*\**`, "", "a", "ab")
	yes(t, `?\?`, "a?", "??")
	no(t, `?\?`, "ab", "?a", "?")
	yes(t, `\**\?`, "*?", "*a?", "*??")
	no(t, `\**\?`, "a?", "*a", "*")
}

func TestStars(t *testing.T) {
	for _, p := range []string{`*`, `**`, `***`} {
		yes(t, p, "", "a", "abc", "*", "\u00e9", "\n", "\x00", "\xff\xfe", "/", ".a", "a/b", "a\nb", "\U0001f600\xf0")
	}
	yes(t, `*a`, "a", "ba", "aa", "bca", "aaa", "aba", "\xffa", "\na")
	no(t, `*a`, "", "b", "ab", "aab", "a\n", "A")
	yes(t, `a*`, "a", "ab", "aa", "abc", "a*", "a\xff")
	no(t, `a*`, "", "b", "ba", "baa")
	yes(t, `a*b`, "ab", "aab", "abb", "acb", "abab", "a*b", "acccb", "a\u00e9b")
	no(t, `a*b`, "", "a", "b", "ba", "aba", "cab", "abc", "acc")
	yes(t, `a**b`, "ab", "acb", "abb")
	no(t, `a**b`, "a", "b", "abc")
	yes(t, `*a*`, "a", "ba", "ab", "bab", "aaa")
	no(t, `*a*`, "", "b", "bcd", "A")
	yes(t, `*a*b*`, "ab", "xaybz", "aabb", "ba ab", "bbab")
	no(t, `*a*b*`, "ba", "a", "b", "", "bbaa", "bcca")
	yes(t, `a*b*c`, "abc", "abbc", "axbxc", "abcbc", "acbc", "abcc")
	no(t, `a*b*c`, "ac", "acb", "abcb", "bc", "ab", "acc", "abca")
	yes(t, `*a*b*c*`, "abc", "cbabc", "xaxbxcx")
	no(t, `*a*b*c*`, "cba", "acb", "bac", "bca", "cab", "ab")
	yes(t, `ab*ba`, "abba", "abaxba", "abba ba")
	no(t, `ab*ba`, "aba", "ab", "ba", "abab")
	yes(t, `a*a`, "aa", "aaa", "aba")
	no(t, `a*a`, "a", "", "ab", "ba")
	yes(t, `a*a*a`, "aaa", "aaaa", "abaca")
	no(t, `a*a*a`, "aa", "a", "aba", "aab")
}

func TestEarlyPlacesThatLeadNowhere(t *testing.T) {
	yes(t, `*ab`, "aab", "abab", "aaab", "ababab", "abaab")
	no(t, `*ab`, "aba", "abb", "aaa", "ababa")
	yes(t, `*abac`, "ababac", "abababac", "abaabac", "abacabac", "aabac")
	no(t, `*abac`, "ababa", "abacab", "ababab", "abaca")
	yes(t, `*aab*`, "aaab", "aabaab", "abaab", "aaaabb", "abaabab")
	no(t, `*aab*`, "abab", "ab", "aaa", "abababa", "baba")
	yes(t, `a*ab*b`, "aabb", "aabab", "aaabb", "acabcb", "aababb")
	no(t, `a*ab*b`, "ab", "abb", "aab", "abbb", "aaab", "aaa", "acabc")
	yes(t, `*a?c*d`, "aacd", "abaaacd", "aaaacxd", "abcabd", "xabcabcd", "aadcd")
	no(t, `*a?c*d`, "acd", "abcab", "abacacd", "abdcd", "adaacc")
	yes(t, `*[ab]c`, "acbc", "bcac", "abac", "aaac")
	no(t, `*[ab]c`, "cc", "acb", "abcb", "c")
	yes(t, `*a*bc*d`, "abbcd", "abcbcd", "abdbcd", "ababcdd", "bcabcd")
	no(t, `*a*bc*d`, "bcad", "abdc", "abcdc", "bcacbd")
	yes(t, `*x*y`, "xyxy", "xxyy", "xzyzy")
	no(t, `*x*y`, "yx", "xyx", "yyx", "xyyz")
	yes(t, `*???c`, "abcc", "cccc", "ccccc", "abcdc")
	no(t, `*???c`, "abc", "ccc", "abcd", "c")
}

func TestQuestionMarks(t *testing.T) {
	yes(t, `?`, "a", "?", "*", "[", " ", "\n", "\x00", "\x7f", "\u0080", "\u00e9", "\u07ff", "\u0800", "\u20ac", "\ufffd", "\uffff", "\U00010000", "\U0001f600", "\U0010ffff", "\xff", "\x80", "\xc3", "/", ".")
	no(t, `?`, "", "ab", "aa", "\u00e9a", "\xff\xff", "\xc3a", "e\u0301", "\xe2\x82", "\xf0\x9f\x98", "\xed\xa0\x80", "\xc0\x80")
	yes(t, `??`, "ab", "\u00e9a", "a\u20ac", "\U0001f600\u00e9", "\xff\xfe", "\xe2\x82", "\xc0\x80", "\xc3a")
	no(t, `??`, "", "a", "\u00e9", "\u20ac", "\U0001f600", "abc", "\xe2\x82a")
	yes(t, `???`, "\xf0\x9f\x98", "\xed\xa0\x80", "\u20ac\u20ac\u20ac")
	no(t, `???`, "\u20ac", "ab", "abcd", "\xf0\x9f\x98\x80")
	yes(t, `a?c`, "abc", "a?c", "aac", "acc", "a\xffc", "a\U0001f600c", "a\nc")
	no(t, `a?c`, "ac", "abbc", "abd", "bbc", "a\xc3\xc3c")
	yes(t, `?a`, "aa", "ba")
	no(t, `?a`, "a", "ab", "bba")
	yes(t, `a?`, "aa", "ab")
	no(t, `a?`, "a", "ba", "abb")
	yes(t, `?*`, "a", "ab", "\xff")
	yes(t, `*?`, "a", "ab", "\xff")
	yes(t, `?*?`, "ab", "abc")
	no(t, `?*?`, "", "a", "\u00e9")
	yes(t, `*??*`, "ab", "abc", "\u00e9\u00e9")
	no(t, `*??*`, "a", "", "\u20ac")
}

func TestBytesThatAreNoText(t *testing.T) {
	// A range has each of them as U+FFFD, and so has a pattern's letter.
	yes(t, "\xff", "\xff", "\xfe", "\x80", "\ufffd", "\xc3")
	no(t, "\xff", "", "\xff\xff", "a", "\xc3\xa9", "\u00ff", "\ufffe")
	yes(t, "\ufffd", "\xff", "\ufffd")
	yes(t, "a\xe2\x82b", "a\xe2\x82b", "a\xff\xffb", "a\ufffd\ufffdb")
	no(t, "a\xe2\x82b", "a\xe2b", "a\u20acb", "a\xe2\x82\x82b")
	yes(t, "[\xff]", "\xff", "\x80", "\ufffd")
	no(t, "[\xff]", "a", "\u00ff", "\xff\xff")
	yes(t, "[!\xff]", "a", "\u00ff")
	no(t, "[!\xff]", "\xff", "\ufffd", "\xc3")
	yes(t, "[\xff-\U00010000]", "\xff", "\uffff", "\U00010000", "\ufffe")
	no(t, "[\xff-\U00010000]", "\ufffc", "\U00010001", "a")
	yes(t, "*\xff", "a\xff", "\xff\xff", "\xff")
	no(t, "*\xff", "a", "\xffa", "")
	yes(t, `[!a]`, "\xff", "\x00")
	yes(t, "\x00", "\x00")
	no(t, "\x00", "", "\x00\x00", "0", "\xff")
	yes(t, "[\x00-b]", "\x00", "\x01", "a", "b")
	no(t, "[\x00-b]", "c", "\xff", "")
}

func TestTheWholeOfTheText(t *testing.T) {
	for _, p := range []string{`a`, `ab`, `[a]`, `[a-c]b`, `?`, `a?`, `a*b`, `[!x]`, `[a`} {
		for _, s := range []string{"a", "ab", "b", "[a", "aab"} {
			m := modelOf(pat(p))
			for _, whole := range []string{s, s + "x", "x" + s, s + s, "\n" + s, s + "\n", s + "\x00", "\x00" + s} {
				if got := glob.Match(pat(p), whole); got != m.matches(whole) {
					t.Errorf("%q of %q: %v", p, whole, got)
				}
			}
		}
	}
	no(t, `b`, "abc", "ab", "bc")
	no(t, `[b]`, "abc", "ab", "bc")
	no(t, `?`, "abc", "ab")
	no(t, `a*b`, "xab", "abx", "xabx")
}

func TestEachLetter(t *testing.T) {
	for r := rune(0); r <= 0x10ffff; r++ {
		if r >= 0xd800 && r < 0xe000 {
			continue
		}
		s, other := string(r), string((r+0x40)%0xd800)
		if !glob.Match([]api.Char{{R: r, Q: true}}, s) || glob.Match([]api.Char{{R: r, Q: true}}, other) {
			t.Fatalf("%q Quoted", r)
		}
		if sign := r == '*' || r == '?'; !glob.Match([]api.Char{{R: r}}, s) || glob.Match([]api.Char{{R: r}}, other) != sign {
			t.Fatalf("%q", r)
		}
		if !glob.Match([]api.Char{{R: '?'}}, s) || !glob.Match([]api.Char{{R: '*'}}, s) {
			t.Fatalf("? or * of %q", r)
		}
		within := []api.Char{{R: '['}, {R: r, Q: true}, {R: ']'}}
		if !glob.Match(within, s) || glob.Match(within, other) {
			t.Fatalf("%q within a bracket", r)
		}
	}
}

func TestLongTexts(t *testing.T) {
	const size = 1 << 18
	long := strings.Repeat("a", size)
	other := strings.Repeat("\u20ac", size)
	for _, c := range []struct {
		p, s string
		want bool
	}{
		{long, long, true}, {long, long + "a", false}, {long + "a", long, false}, {long + "b", long + "c", false},
		{"*", long, true}, {"*b", long, false}, {"*b", long + "b", true}, {"b*", long, false}, {"*a", long, true}, {"*b*", long, false}, {"*b*", long + "b" + long, true},
		{strings.Repeat("*", size), "", true}, {strings.Repeat("*", size), long, true}, {strings.Repeat("*", size) + "b", long, false}, {"b" + strings.Repeat("*", size), long, false},
		{strings.Repeat("?", size), long, true}, {strings.Repeat("?", size), other, true}, {strings.Repeat("?", size+1), long, false}, {strings.Repeat("?", size-1), long, false}, {strings.Repeat("?*", size), other, true}, {strings.Repeat("?*", size+1), other, false},
		{strings.Repeat("*a", size), long, true}, {strings.Repeat("*a", size+1), long, false}, {strings.Repeat("*a", size/2) + "*", long, true}, {strings.Repeat("a*", 1000) + "b", long, false}, {strings.Repeat("*a", 1000) + "*b", long, false}, {strings.Repeat("*a", 1000) + "*b", long + "b", true},
		{strings.Repeat("[a]", size), long, true}, {strings.Repeat("[a]", size-1) + "[!a]", long, false}, {strings.Repeat("*[!b]", size), long, true}, {strings.Repeat("*[!b]", size+1), long, false},
		{"*" + strings.Repeat("a", 500) + "b*", strings.Repeat("a", 20000), false}, {"*" + strings.Repeat("a", 500) + "b*", strings.Repeat("a", 20000) + "b", true},
		{"[" + long + "b]", "b", true}, {"[" + long + "b]", "c", false}, {"[!" + long + "b]", "c", true}, {"[" + strings.Repeat("x-z", size) + "]", "y", true}, {"[" + strings.Repeat("x-z", size) + "]", "w", false}, {"[" + strings.Repeat("-", size) + "]", "-", true}, {"[" + long, "[" + long, true}, {"[" + long, "a", false},
	} {
		if got := glob.Match(pat(c.p), c.s); got != c.want {
			t.Errorf("%.20q (%d) of %.20q (%d): %v", c.p, len(c.p), c.s, len(c.s), got)
		}
	}
}

func TestManyBracketsThatDoNotEnd(t *testing.T) {
	// Were each of them gone through to the end of the pattern, this would take hours.
	for _, s := range []string{"[", "[!", "[a", "[-", "[!-", `[\]`, `[!\]`} {
		p := pat(strings.Repeat(s, 1<<19))
		if text := glob.Text(p); !glob.Match(p, text) || glob.Match(p, text[1:]) {
			t.Errorf("many %q", s)
		}
	}
}

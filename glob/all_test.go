package glob_test

import (
	"math/rand/v2"
	"slices"
	"testing"

	"lazarus/api"
	"lazarus/glob"
)

// some are the texts that each short pattern is held against, beside those that have to do with its Text.
var some = func() []string {
	l := []string{"", "\xff", "\u00e9", "\x00", "aa", "a]", "[a", "*?", "ab", "!a", "-]", "[]", "ba", "[!", "]]", "--"}
	for _, r := range "*?[]!-.abc,^\\" {
		l = append(l, string(r))
	}
	return l
}()

// checkAll holds what a pattern matches of some texts, and of its Text and what is like it, against the model; it tells how many it matches.
func checkAll(t *testing.T, p []api.Char) int {
	t.Helper()
	m := modelOf(p)
	text := glob.Text(p)
	alike := []string{text, text + "a", "]" + text}
	if text != "" {
		alike = append(alike, text[1:], text[:len(text)-1])
	}
	n := 0
	for _, s := range slices.Concat(some, alike) {
		got := glob.Match(p, s)
		if got != m.matches(s) {
			t.Errorf("%q of %q: %v", spelt(p), s, got)
		}
		if got {
			n++
		}
		if !glob.Has(p) && got != (plain(s) == text) {
			t.Errorf("%q has no sign, but of %q: %v", spelt(p), s, got)
		}
	}
	return n
}

// rows calls f with each row of at most size of these letters, behind and ahead of others.
func rows(ahead, of, behind string, size int, f func(p []api.Char)) {
	first, all, last := pat(ahead), pat(of), pat(behind)
	var grow func(row []api.Char, left int)
	grow = func(row []api.Char, left int) {
		f(slices.Concat(first, row, last))
		for _, c := range all {
			if left > 0 {
				grow(append(slices.Clip(row), c), left-1)
			}
		}
	}
	grow(nil, size)
}

func TestAllShortPatterns(t *testing.T) {
	matched, none := 0, 0
	f := func(p []api.Char) {
		if n := checkAll(t, p); n > 0 {
			matched += n
		} else {
			none++
		}
	}
	rows(``, `*?[!-]a\*\?\[\!\-\]\a`, ``, 4, f)
	rows(``, `*?[]!a`, ``, 6, f)
	rows(``, `[]-a\]`, ``, 6, f)
	rows(`[`, `!-]a\!\-\]c`, `]`, 5, f)
	rows(`[!`, `!-]a\-\]`, `]`, 4, f)
	rows(`[`, `-a,.`, `]`, 5, f)
	rows(`[a`, `-]c\-`, `]c`, 5, f)
	rows(`*`, `a*?b`, ``, 5, f)
	rows(`[`, `[]*?!`, ``, 5, f)
	if matched < 300000 || none < 10000 {
		t.Error(matched, none)
	}
}

func TestAllShortTexts(t *testing.T) {
	var texts []string
	rows(``, `abc`, ``, 6, func(p []api.Char) { texts = append(texts, glob.Text(p)) })
	var patterns []string
	rows(``, `*?ab`, ``, 5, func(p []api.Char) { patterns = append(patterns, glob.Text(p)) })
	patterns = append(patterns, `[ab]`, `[!a]*`, `*[!a]`, `*[a-b]c*`, `a*[bc]*a`, `*[!b]b*`, `?*[c]`, `*ab*ba*`, `*aab*c`, `a*b*c*a`, `*a*b*a*`, `*[ab]*[bc]*`, `[a-c][a-c]*`, `*[!c][!c][!c]`)
	matched := 0
	for i, p := range patterns {
		m := modelOf(pat(p))
		for j, s := range texts {
			// All of them would take too long; the shortest ones, which come to most, are each held against each.
			if len(p)+len(s) > 9 && (i+j)%7 != 0 {
				continue
			}
			got := glob.Match(pat(p), s)
			if got != m.matches(s) {
				t.Errorf("%q of %q: %v", p, s, got)
			}
			if got {
				matched++
			}
		}
	}
	if matched < 10000 {
		t.Error(matched)
	}
}

func TestMadeUpPatterns(t *testing.T) {
	r := rand.New(rand.NewPCG(13, 1))
	signs := []rune("*?[]!-[]--**")
	open := []rune("abcab*?[]!-\x00\u00e9\u00e8\u20ac\ufffd\U0001f600")
	matched, none := 0, 0
	for i := range 40000 {
		var p []api.Char
		for range r.IntN(3 + i%20) {
			c := api.Char{R: open[r.IntN(len(open))], Q: r.IntN(5) == 0}
			if r.IntN(2) == 0 {
				c.R = signs[r.IntN(len(signs))]
			}
			p = append(p, c)
		}
		m := modelOf(p)
		for range 4 {
			s := m.made(r, open)
			if r.IntN(3) == 0 {
				at := r.IntN(len(s) + 1)
				s = s[:at] + string(open[r.IntN(len(open))]) + s[min(len(s), at+r.IntN(3)):]
			}
			got := glob.Match(p, s)
			if got != m.matches(s) {
				t.Errorf("%q of %q: %v", spelt(p), s, got)
			}
			if got {
				matched++
			} else {
				none++
			}
		}
	}
	if matched < 50000 || none < 30000 {
		t.Error(matched, none)
	}
}

// FuzzMatch holds any pattern against any text as the model has it; what stands behind a backslash is Quoted.
func FuzzMatch(f *testing.F) {
	f.Add(`a*[!b-d]`, "axe")
	f.Add(`[]-a]?\*[\!x-]`, "a\xff*-")
	f.Add("[\u00e0-\u00ef]*[!", "\u00e9[!")
	f.Fuzz(func(t *testing.T, p, s string) {
		if len(p) > 500 {
			return
		}
		checkAll(t, pat(p))
		if got := glob.Match(pat(p), s); got != modelOf(pat(p)).matches(s) {
			t.Errorf("%q of %q: %v", p, s, got)
		}
	})
}

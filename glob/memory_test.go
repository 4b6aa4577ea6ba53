package glob_test

import (
	"slices"
	"sync"
	"testing"

	"lazarus/api"
	"lazarus/glob"
)

// somePatterns have all that a pattern may be made of.
var somePatterns = []string{``, `a`, `\*`, `*`, `a*b`, `?`, `[a]`, `[!a-c]`, `[]-]`, `[a`, `[!`, `*[ab]?*c`, `a\[b`, "\u00e9*\xff", `*a*a*b`, `abc`}

// someTexts are held against them.
var someTexts = []string{"", "a", "b", "*", "ab", "[a", "[!", "aabc", "a[b", "\u00e9x\xff", "aab", "abc", "]"}

func TestWhatIsHandedInStays(t *testing.T) {
	for _, p := range somePatterns {
		n := len(pat(p))
		all := append(pat(p), pat(`]\]a*b`)...)
		was := slices.Clone(all)
		for _, s := range someTexts {
			glob.Match(all[:n], s)
			glob.Match(all, s)
		}
		glob.Has(all[:n])
		glob.Text(all[:n])
		if !slices.Equal(all, was) {
			t.Errorf("%q became %q", spelt(was), spelt(all))
		}
	}
}

func TestSpareRoomIsNoPattern(t *testing.T) {
	all := pat(`[a]*`)
	for size, want := range []string{"", "[", "[a", "a", "axy"} {
		p := all[:size]
		if !glob.Match(p, want) || size < 4 && glob.Match(p, "axy") || size < 3 && glob.Match(p, "a") {
			t.Errorf("the first %d", size)
		}
	}
	all = pat(`a*`)
	if glob.Has(all[:1]) || glob.Text(all[:1]) != "a" || glob.Match(all[:1], "ab") {
		t.Error("the first letter")
	}
}

func TestNilIsAnEmptyList(t *testing.T) {
	for _, p := range [][]api.Char{nil, {}, make([]api.Char, 0, 4), pat(`*`)[:0]} {
		if glob.Has(p) || glob.Text(p) != "" || !glob.Match(p, "") || glob.Match(p, "a") {
			t.Errorf("%v", p)
		}
	}
}

func TestAnswersShareNothing(t *testing.T) {
	for _, s := range []string{"", "a", "abc", "\u00e9\xff"} {
		one, other := glob.Chars(s, true), glob.Chars(s, true)
		want := slices.Clone(other)
		for i := range one[:cap(one)] {
			one[:cap(one)][i] = api.Char{R: 'x'}
		}
		if third := glob.Chars(s, true); !slices.Equal(other, want) || !slices.Equal(third, want) {
			t.Errorf("%q: %v, %v", s, other, third)
		}
	}
	p := pat(`ab*`)
	text := glob.Text(p)
	for i := range p {
		p[i] = api.Char{R: 'x', Q: true}
	}
	if text != "ab*" || glob.Text(p) != "xxx" || glob.Match(p, "abc") || !glob.Match(p, "xxx") || glob.Has(p) {
		t.Error(text)
	}
}

func TestCallsSideBySide(t *testing.T) {
	var want []bool
	for _, p := range somePatterns {
		for _, s := range someTexts {
			want = append(want, modelOf(pat(p)).matches(s))
		}
	}
	var patterns [][]api.Char
	for _, p := range somePatterns {
		patterns = append(patterns, pat(p))
	}
	var all sync.WaitGroup
	for range 8 {
		all.Go(func() {
			for range 100 {
				for i, p := range patterns {
					for j, s := range someTexts {
						if got := glob.Match(p, s); got != want[i*len(someTexts)+j] {
							t.Errorf("%q of %q: %v", somePatterns[i], s, got)
						}
					}
				}
			}
		})
	}
	all.Wait()
}

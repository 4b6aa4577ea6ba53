package split_test

import (
	"math/rand/v2"
	"slices"
	"strings"
	"testing"

	"lazarus/api"
	"lazarus/glob"
	"lazarus/split"
)

// kinds are all eight kinds of a run, each with these texts.
func kinds(texts ...string) []split.Run {
	var l []split.Run
	for i := range 8 {
		for _, s := range texts {
			l = append(l, split.Run{Text: s, Quote: i&1 > 0, Split: i&2 > 0, Break: i&4 > 0})
		}
	}
	return l
}

// edges are the kinds of runs that most hangs on.
var edges = []split.Run{stop, quote(""), quote("a"), quote(" "), parted(""), parted(" "), parted("a"), parted("a "), parted("\tb"), plain("c"), plain(" ")}

func TestAllShortRowsOfRuns(t *testing.T) {
	check := func(l []split.Run) { all(t, l) }
	n := rows(kinds("", "a", " ", "b\n"), 3, check)
	n += rows(kinds("", " a b"), 4, check)
	n += rows(edges, 5, check)
	n += rows(row(stop, quote(""), parted(" "), plain("a")), 8, check)
	if n < 300000 {
		t.Error(n)
	}
}

func TestAllShortTextsOfOneRun(t *testing.T) {
	n := texts([]string{"a", " ", "\t", "\n", "\u00e9", "\xff", "\u00a0"}, 6, func(s string) {
		for _, x := range []split.Run{plain(s), quote(s), parted(s)} {
			all(t, row(x))
		}
		// Of one Split the fields are the Words, but for bytes that begin no letter.
		var words []string
		for _, f := range split.Fields(row(parted(s))) {
			words = append(words, glob.Text(f))
		}
		var want []string
		for _, w := range split.Words(s) {
			want = append(want, string([]rune(w)))
		}
		if !slices.Equal(words, want) {
			t.Errorf("%+q: %+q; Words has %+q", s, words, want)
		}
	})
	if n < 100000 {
		t.Error(n)
	}
}

// stays tells whether a letter of a run is in a field.
func stays(x split.Run, r rune) bool {
	return x.Quote || !x.Split || !strings.ContainsRune(" \t\n", r)
}

// checkLetters holds that all letters of all fields are those of the runs, in order, and that none is without letters but by a Quote; it tells how many were without.
func checkLetters(t *testing.T, l []split.Run) int {
	t.Helper()
	var want []api.Char
	may := 0
	for _, x := range l {
		if x.Break {
			continue
		}
		if x.Quote && x.Text == "" {
			may++
		}
		for _, c := range glob.Chars(x.Text, x.Quote) {
			if stays(x, c.R) {
				want = append(want, c)
			}
		}
	}
	f := split.Fields(l)
	if got := slices.Concat(f...); !slices.Equal(got, want) {
		t.Errorf("%s: %.200q; want %.200q", told(l), spelt(got), spelt(want))
	}
	empty := 0
	for _, field := range f {
		if len(field) == 0 {
			empty++
		}
	}
	if empty > may {
		t.Errorf("%s: %s", told(l), toldAll(f))
	}
	return empty
}

func TestAllLettersInOrder(t *testing.T) {
	n, empty := 0, 0
	check := func(l []split.Run) { empty += checkLetters(t, l) }
	n += rows(kinds("", "a ", "\n\u00e9"), 3, check)
	n += rows(edges, 4, check)
	if n < 20000 || empty < 1000 {
		t.Error(n, empty)
	}
}

// Without a Quote there is no field without letters, however the others stand.
func TestNoFieldIsWithoutLetters(t *testing.T) {
	n := 0
	rows(row(stop, parted(""), parted(" "), parted("a"), parted("a "), parted("\tb"), plain(""), plain("c"), plain(" "), split.Run{Quote: true, Break: true}), 5, func(l []split.Run) {
		for _, f := range split.Fields(l) {
			n++
			if len(f) == 0 {
				t.Errorf("%s: %s", told(l), toldAll(split.Fields(l)))
			}
		}
	})
	if n < 100000 {
		t.Error(n)
	}
}

// Each Quote without letters alone between two that end a field is one, and nothing else is.
func TestFieldsWithoutLettersAreThoseOfAQuote(t *testing.T) {
	rows(row(stop, parted(" "), quote("")), 8, func(l []split.Run) {
		n := 0
		for i, x := range l {
			if x.Quote && (i == 0 || !l[i-1].Quote) {
				n++
			}
		}
		f := split.Fields(l)
		if len(f) != n || len(slices.Concat(f...)) > 0 {
			t.Errorf("%s: %s; want %d", told(l), toldAll(f), n)
		}
	})
}

// cut is the same runs with one that is no Break cut in two, ahead of one of its letters.
func cut(l []split.Run, i, at int) []split.Run {
	letters := []rune(l[i].Text)
	one, other := l[i], l[i]
	one.Text, other.Text = string(letters[:at]), string(letters[at:])
	return slices.Concat(l[:i], row(one, other), l[i+1:])
}

func TestHowLettersArePartedIntoRunsDoesNotMatter(t *testing.T) {
	n := 0
	rows(row(stop, quote(""), quote("a b"), parted(" a \u00e9b"), parted("a\n\nb\t"), plain(" c"), split.Run{Text: "d e", Quote: true, Split: true}), 4, func(l []split.Run) {
		f, j := split.Fields(l), split.Join(l)
		for i, x := range l {
			for at := range len([]rune(x.Text)) + 1 {
				if x.Break {
					break
				}
				n++
				c := cut(l, i, at)
				if got := split.Fields(c); !same(got, f) || !slices.Equal(split.Join(c), j) {
					t.Errorf("%s: %s; want %s", told(c), toldAll(got), toldAll(f))
				}
			}
		}
	})
	if n < 30000 {
		t.Error(n)
	}
}

// At a Break nothing goes on: what is ahead of it and what is behind it are as if each stood alone.
func TestABreakPartsAll(t *testing.T) {
	of := row(stop, quote(""), quote("a"), parted(" "), parted("a "), parted(" b"), plain("c"), plain(""))
	rows(of, 2, func(one []split.Run) {
		rows(of, 2, func(other []split.Run) {
			l := slices.Concat(one, row(stop), other)
			want := slices.Concat(split.Fields(one), split.Fields(other))
			if got := split.Fields(l); !same(got, want) {
				t.Errorf("%s: %s; want %s", told(l), toldAll(got), toldAll(want))
			}
			blank := row(plain(" "))
			if got, want := split.Join(l), slices.Concat(split.Join(one), split.Join(blank), split.Join(other)); !slices.Equal(got, want) {
				t.Errorf("%s: %q; want %q", told(l), spelt(got), spelt(want))
			}
		})
	})
}

// madeUp is a row of runs.
func madeUp(r *rand.Rand, size int) []split.Run {
	pieces := []string{"a", "b", "c", " ", " ", "\t", "\n", "\u00e9", "\u20ac", "\U0001f600", "\x00", "\xff", "\xc3", "\u00a0", "\r", "*", `\`}
	var l []split.Run
	for range size {
		var x split.Run
		for range r.IntN(6) {
			x.Text += pieces[r.IntN(len(pieces))]
		}
		x.Quote, x.Split, x.Break = r.IntN(3) == 0, r.IntN(2) == 0, r.IntN(5) == 0
		l = append(l, x)
	}
	return l
}

func TestMadeUpRuns(t *testing.T) {
	r := rand.New(rand.NewPCG(15, 1))
	n, empty := 0, 0
	for i := range 20000 {
		l := madeUp(r, r.IntN(3+i%60))
		all(t, l)
		empty += checkLetters(t, l)
		n += len(split.Fields(l))
		s := ""
		for _, x := range l {
			s += x.Text
		}
		lineByLine(t, s)
		if got, want := split.Words(s), modelWords(s); !slices.Equal(got, want) {
			t.Errorf("%+q: %+q; want %+q", s, got, want)
		}
	}
	if n < 80000 || empty < 1000 {
		t.Error(n, empty)
	}
}

// FuzzRuns holds any runs, and the text itself, against the model: the text is cut at each |, and the flags tell of each piece what it is.
func FuzzRuns(f *testing.F) {
	f.Add("a b|c", []byte{2, 1})
	f.Add(" a||x|\xff\n\u00e9", []byte{2, 1, 4, 3})
	f.Fuzz(func(t *testing.T, s string, flags []byte) {
		var l []split.Run
		for i, x := range strings.Split(s, "|") {
			var b byte
			if len(flags) > 0 {
				b = flags[i%len(flags)]
			}
			l = append(l, split.Run{Text: x, Quote: b&1 > 0, Split: b&2 > 0, Break: b&4 > 0})
		}
		all(t, l)
		checkLetters(t, l)
		lineByLine(t, s)
		if got, want := split.Words(s), modelWords(s); !slices.Equal(got, want) {
			t.Errorf("%+q: %+q; want %+q", s, got, want)
		}
	})
}

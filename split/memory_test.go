package split_test

import (
	"slices"
	"strings"
	"sync"
	"testing"

	"lazarus/api"
	"lazarus/split"
)

// someRows have all that runs may be made of.
var someRows = [][]split.Run{
	nil,
	row(stop),
	row(quote("")),
	row(plain("abc")),
	row(quote("abc")),
	row(parted("a b")),
	row(parted("ab cd"), quote("e f")),
	row(parted(" a\tb\nc "), stop, quote(""), stop, plain(" d")),
	row(quote("a"), stop, quote("b"), stop, quote("c"), stop, quote("d"), stop, quote("e")),
	row(parted("a b c d e f g h i j k l m n o p"), plain("q"), quote("r\xff\u00e9")),
	row(quote(""), stop, quote(""), stop, quote("")),
	row(parted("abcdefghijklm nopqrstuvwxyz 0123456789"), parted("ABCDEFG HI")),
	{{Text: "a b", Quote: true, Split: true}, {Text: "c", Quote: true, Break: true}, {Text: "d", Split: true, Break: true}, {Text: "e f", Quote: true, Split: true, Break: true}, {Text: " g"}},
}

// roomy is a row with spare room that has runs too.
func roomy(l []split.Run) (some, whole []split.Run) {
	whole = slices.Concat(l, row(quote("spare"), stop, parted("s p"), plain("")))
	return whole[:len(l)], whole
}

// spoil writes over a field, and its spare room.
func spoil(l []api.Char) {
	for i := range l[:cap(l)] {
		l[:cap(l)][i] = api.Char{R: 'Z', Q: i%2 == 0}
	}
}

// spoilAll writes over all fields, their list, and all spare room.
func spoilAll(l [][]api.Char) {
	for i, f := range l[:cap(l)] {
		spoil(f)
		l[:cap(l)][i] = []api.Char{{R: 'Y'}}
	}
}

// spoilRuns writes over all runs.
func spoilRuns(l []split.Run) {
	for i := range l {
		l[i] = split.Run{Text: "spoilt x", Split: true}
	}
}

func TestWhatIsHandedInStays(t *testing.T) {
	for i, l := range someRows {
		some, whole := roomy(l)
		was := clone(whole)
		split.Fields(some)
		split.Join(some)
		if !slices.Equal(whole, was) {
			t.Errorf("%d: %s became %s", i, told(was), told(whole))
		}
		split.Fields(whole)
		split.Join(whole)
		if !slices.Equal(whole, was) {
			t.Errorf("%d: %s became %s", i, told(was), told(whole))
		}
	}
}

func TestSpareRoomIsNoRun(t *testing.T) {
	for _, l := range someRows {
		some, whole := roomy(l)
		if got, want := split.Fields(some), modelFields(clone(l)); !same(got, want) {
			t.Errorf("%s: %s; want %s", told(l), toldAll(got), toldAll(want))
		}
		if got, want := split.Join(some), modelJoin(clone(l)); !slices.Equal(got, want) {
			t.Errorf("%s: %q; want %q", told(l), spelt(got), spelt(want))
		}
		all(t, whole)
	}
}

func TestAnAnswerDoesNotChangeWhatWasHandedIn(t *testing.T) {
	for i, l := range someRows {
		some, whole := roomy(l)
		was := clone(whole)
		spoilAll(split.Fields(some))
		spoil(split.Join(some))
		if !slices.Equal(whole, was) {
			t.Errorf("%d: %s became %s", i, told(was), told(whole))
		}
		all(t, some)
	}
}

func TestWhatWasHandedInDoesNotChangeAnAnswer(t *testing.T) {
	for i, l := range someRows {
		some, whole := roomy(l)
		f, j := split.Fields(some), split.Join(some)
		spoilRuns(whole)
		if !same(f, modelFields(l)) || !slices.Equal(j, modelJoin(l)) {
			t.Errorf("%d: %s, %q", i, toldAll(f), spelt(j))
		}
	}
}

// Each field in turn is written over, spare room too, and has letters put behind it.
func TestNoTwoFieldsShareAnything(t *testing.T) {
	for _, l := range someRows {
		want := modelFields(l)
		for i := range want {
			f := split.Fields(l)
			spoil(f[i])
			f[i] = append(f[i], of(`more letters than there is room for`)...)
			for k := range f {
				if k != i && !slices.Equal(f[k], want[k]) {
					t.Errorf("%s: field %d became %q with field %d", told(l), k, spelt(f[k]), i)
				}
			}
			f = split.Fields(l)
			for range 3 {
				f[i] = append(f[i], api.Char{R: 'Z'})
			}
			for k := range f {
				if k != i && !slices.Equal(f[k], want[k]) {
					t.Errorf("%s: field %d became %q behind field %d", told(l), k, spelt(f[k]), i)
				}
			}
		}
	}
}

func TestNoTwoAnswersShareAnything(t *testing.T) {
	for _, one := range someRows {
		for _, other := range someRows {
			f, j := split.Fields(other), split.Join(other)
			was, joined := cloneAll(f), slices.Clone(j)
			spoilAll(split.Fields(one))
			spoil(split.Join(one))
			if !same(f, was) || !slices.Equal(j, joined) {
				t.Errorf("%s, %s", told(one), told(other))
			}
			first, second := split.Fields(one), split.Join(one)
			spoilAll(f)
			spoil(j)
			if !same(first, modelFields(one)) || !slices.Equal(second, modelJoin(one)) {
				t.Errorf("%s, %s", told(one), told(other))
			}
			all(t, other)
		}
	}
}

func TestWordsShareNoList(t *testing.T) {
	for _, s := range []string{"", " ", "a", "a b", " a b\tc\nd e f g h i "} {
		one, other := split.Words(s), split.Words(s)
		for i := range one[:cap(one)] {
			one[:cap(one)][i] = "spoilt"
		}
		if !slices.Equal(other, modelWords(s)) || !slices.Equal(split.Words(s), modelWords(s)) {
			t.Errorf("%q: %q", s, other)
		}
	}
}

// A text that is made of bytes which are changed later stays, and so does what is answered of it.
func TestAnAnswerStays(t *testing.T) {
	b := []byte("ab cd\nef \xff")
	s := string(b)
	x := row(parted(s), stop, quote(s))
	f, j, words := split.Fields(x), split.Join(x), split.Words(s)
	line, rest, ok := split.Lines(s)
	for i := range b {
		b[i] = 'x'
	}
	for _, l := range someRows {
		spoilAll(split.Fields(l))
		spoil(split.Join(l))
		split.Words(strings.Repeat("x y ", 100))
		split.Lines("x\ny")
	}
	if !same(f, modelFields(x)) || !slices.Equal(j, modelJoin(x)) || !slices.Equal(words, []string{"ab", "cd", "ef", "\xff"}) || line != "ab cd" || rest != "ef \xff" || !ok {
		t.Error(toldAll(f), spelt(j), words, line, rest, ok)
	}
}

func TestCallsSideBySide(t *testing.T) {
	var fields [][][]api.Char
	var joined [][]api.Char
	for _, l := range someRows {
		fields, joined = append(fields, modelFields(l)), append(joined, modelJoin(l))
	}
	const s = " a b\n\nc \u00e9"
	var side sync.WaitGroup
	for range 8 {
		side.Go(func() {
			for range 100 {
				for i, l := range someRows {
					f, j := split.Fields(l), split.Join(l)
					if !same(f, fields[i]) || !slices.Equal(j, joined[i]) {
						t.Error(i, toldAll(f), spelt(j))
					}
					spoilAll(f)
					spoil(j)
				}
				line, rest, ok := split.Lines(s)
				if line != " a b" || rest != "\nc \u00e9" || !ok || !slices.Equal(split.Words(s), modelWords(s)) {
					t.Error(line, rest, ok)
				}
			}
		})
	}
	side.Wait()
}

package net_test

import (
	"bytes"
	"math"
	"strings"
	"testing"

	"lazarus/net"
)

// numbers are ordinary ones and the edges, each with its bytes.
var numbers = []struct {
	n    int64
	want string
}{
	{0, "0;"},
	{1, "1;"},
	{-1, "-1;"},
	{9, "9;"},
	{10, "10;"},
	{-10, "-10;"},
	{100, "100;"},
	{-907, "-907;"},
	{math.MaxInt32, "2147483647;"},
	{math.MinInt32, "-2147483648;"},
	{1_000_000_000_000_000_000, "1000000000000000000;"},
	{math.MaxInt64 - 1, "9223372036854775806;"},
	{math.MaxInt64, "9223372036854775807;"},
	{math.MinInt64 + 1, "-9223372036854775807;"},
	{math.MinInt64, "-9223372036854775808;"},
}

// noNumbers begin with no number's bytes.
var noNumbers = []string{
	"", ";", ";1;", "-", "-;", "--1;", "-0;", "-00;", "00;", "01;", "007;", "-01;",
	"+1;", "+0;", " 1;", "1 ;", "\t1;", "1\n;", "1", "12", "-12", "1,2;", "1-;", "1-2;",
	"0x1;", "0b1;", "0o1;", "1_0;", "1e3;", "1.0;", "a;", "1a;", "nil;", "\x00;", "1\x00;", "\xff;",
	"\u0661;", "\uff11;", "\u22121;",
	"9223372036854775808;", "-9223372036854775809;", "10000000000000000000;",
	"18446744073709551616;", "18446744073709551617;", "-18446744073709551615;",
	"99999999999999999999;", "-99999999999999999999;", "100000000000000000000;",
	"00000000000000000000000000000001;", "-00000000000000000000000000000001;",
	"340282366920938463463374607431768211457;",
	strings.Repeat("1", 1<<16), strings.Repeat("1", 1<<16) + ";", strings.Repeat("0", 1<<16) + ";",
	strings.Repeat("-", 1<<16) + "1;",
}

// texts are ordinary ones and the edges, each with its bytes.
var texts = []struct{ s, want string }{
	{"", "0;"},
	{"a", "1;a"},
	{"ab", "2;ab"},
	{";", "1;;"},
	{"3;abc", "5;3;abc"},
	{"-1;", "3;-1;"},
	{"0123456789", "10;0123456789"},
	{"\x00", "1;\x00"},
	{"\xff\xfe\x80", "3;\xff\xfe\x80"},
	{"\u00e9", "2;\xc3\xa9"},
	{"a\u20acb\n", "6;a\xe2\x82\xacb\n"},
}

// noTexts begin with no text's bytes.
var noTexts = []string{
	"1;", "2;", "2;a", "10;012345678", "3;\u00e9",
	"-1;", "-1;a", "-2;ab", "-0;", "-9223372036854775808;", "-9223372036854775808;a",
	"9223372036854775807;", "9223372036854775807;a", "4294967297;a", "2147483648;a", "18446744073709551617;a",
	"02;ab", "00;", "+2;ab", " 2;ab", "2 ;ab", "2:ab", "2ab", "ab", "2",
}

func TestNumBytes(t *testing.T) {
	for _, c := range numbers {
		if got := string(net.Num(c.n)); got != c.want {
			t.Errorf("Num(%d) = %q, want %q", c.n, got, c.want)
		}
	}
}

func TestTextBytes(t *testing.T) {
	for _, c := range texts {
		if got := string(net.Text(c.s)); got != c.want {
			t.Errorf("Text(%q) = %q, want %q", c.s, got, c.want)
		}
	}
	long := strings.Repeat("x;", 1<<15)
	if got := string(net.Text(long)); got != "65536;"+long {
		t.Errorf("a long text has %d bytes and begins %q", len(got), got[:8])
	}
}

func TestReaderTakesNum(t *testing.T) {
	for _, c := range numbers {
		for _, behind := range []string{"", ";", "0", "5;", "-", "x", "\x00\xff"} {
			r := net.New([]byte(c.want + behind))
			n, ok := r.Num()
			if n != c.n || !ok || r.Left() != len(behind) {
				t.Errorf("Num of %q = %d, %v, left %d", c.want+behind, n, ok, r.Left())
			}
		}
	}
}

func TestReaderTakesText(t *testing.T) {
	for _, c := range texts {
		for _, behind := range []string{"", ";", "0;", "2;ab", "x", "\x00\xff"} {
			r := net.New([]byte(c.want + behind))
			s, ok := r.Text()
			if s != c.s || !ok || r.Left() != len(behind) {
				t.Errorf("Text of %q = %q, %v, left %d", c.want+behind, s, ok, r.Left())
			}
		}
	}
}

func TestNoNumTakesNothing(t *testing.T) {
	for _, b := range noNumbers {
		r := net.New([]byte(b))
		for range 2 {
			if n, ok := r.Num(); n != 0 || ok || r.Left() != len(b) {
				t.Errorf("Num of %.40q = %d, %v, left %d of %d", b, n, ok, r.Left(), len(b))
			}
			if s, ok := r.Text(); s != "" || ok || r.Left() != len(b) {
				t.Errorf("Text of %.40q = %.40q, %v, left %d of %d", b, s, ok, r.Left(), len(b))
			}
		}
	}
}

func TestNoTextTakesNothing(t *testing.T) {
	for _, b := range noTexts {
		r := net.New([]byte(b))
		for range 2 {
			if s, ok := r.Text(); s != "" || ok || r.Left() != len(b) {
				t.Errorf("Text of %q = %q, %v, left %d of %d", b, s, ok, r.Left(), len(b))
			}
		}
	}
}

func TestTextCutShortAnywhere(t *testing.T) {
	whole := "11;abc;3;\x00\u00e9xy"
	for cut := range len(whole) {
		r := net.New([]byte(whole[:cut]))
		if s, ok := r.Text(); s != "" || ok || r.Left() != cut {
			t.Errorf("Text of %q = %q, %v, left %d", whole[:cut], s, ok, r.Left())
		}
	}
	if s, ok := net.New([]byte(whole)).Text(); s != whole[3:] || !ok {
		t.Errorf("Text of %q = %q, %v", whole, s, ok)
	}
}

func TestNumIsLeftWhereNoTextIs(t *testing.T) {
	r := net.New([]byte("9;abc"))
	if s, ok := r.Text(); s != "" || ok || r.Left() != 5 {
		t.Errorf("Text = %q, %v, left %d", s, ok, r.Left())
	}
	if n, ok := r.Num(); n != 9 || !ok || r.Left() != 3 {
		t.Errorf("Num = %d, %v, left %d", n, ok, r.Left())
	}
	r = net.New([]byte("-3;abc"))
	if s, ok := r.Text(); s != "" || ok || r.Left() != 6 {
		t.Errorf("Text = %q, %v, left %d", s, ok, r.Left())
	}
	if n, ok := r.Num(); n != -3 || !ok || r.Left() != 3 {
		t.Errorf("Num = %d, %v, left %d", n, ok, r.Left())
	}
}

// allShort calls f with every text over letters of at most size bytes.
func allShort(letters string, size int, f func(b string)) {
	var grow func(b string)
	grow = func(b string) {
		f(b)
		if len(b) < size {
			for i := range len(letters) {
				grow(b + letters[i:i+1])
			}
		}
	}
	grow("")
}

func TestEveryShortTextOfBytes(t *testing.T) {
	// Within 6 bytes, with ';', stand the numbers of at most 5.
	byBytes := map[string]int64{}
	for n := int64(-9999); n <= 99999; n++ {
		byBytes[string(net.Num(n))] = n
	}
	allShort("-+019;a", 6, func(b string) {
		head := b[:strings.IndexByte(b, ';')+1]
		n, is := byBytes[head]
		r := net.New([]byte(b))
		if got, ok := r.Num(); got != n || ok != is || r.Left() != len(b)-takenIf(is, len(head)) {
			t.Fatalf("Num of %q = %d, %v, left %d", b, got, ok, r.Left())
		}
		want := ""
		is = is && n >= 0 && n <= int64(len(b)-len(head))
		if is {
			want = b[len(head) : len(head)+int(n)]
		}
		r = net.New([]byte(b))
		if got, ok := r.Text(); got != want || ok != is || r.Left() != len(b)-takenIf(is, len(head)+len(want)) {
			t.Fatalf("Text of %q = %q, %v, left %d", b, got, ok, r.Left())
		}
	})
}

// takenIf is size if it was taken, else 0.
func takenIf(taken bool, size int) int {
	if taken {
		return size
	}
	return 0
}

func TestOneBehindTheOther(t *testing.T) {
	var b []byte
	for _, c := range numbers {
		for _, d := range texts {
			b = append(b, net.Num(c.n)...)
			b = append(b, net.Text(d.s)...)
			b = append(b, net.Text("")...)
		}
	}
	r, left := net.New(b), len(b)
	for _, c := range numbers {
		for _, d := range texts {
			n, isNum := r.Num()
			s, isText := r.Text()
			e, isEmpty := r.Text()
			left -= len(c.want) + len(d.want) + len("0;")
			if n != c.n || !isNum || s != d.s || !isText || e != "" || !isEmpty || r.Left() != left {
				t.Fatalf("%d, %v, %q, %v, %q, %v, left %d; want %d, %q, left %d", n, isNum, s, isText, e, isEmpty, r.Left(), c.n, d.s, left)
			}
		}
	}
	if n, ok := r.Num(); n != 0 || ok || r.Left() != 0 {
		t.Errorf("behind the end: %d, %v, left %d", n, ok, r.Left())
	}
	if s, ok := r.Text(); s != "" || ok || r.Left() != 0 {
		t.Errorf("behind the end: %q, %v, left %d", s, ok, r.Left())
	}
}

func TestHandedInIsNotChanged(t *testing.T) {
	whole := []byte("12;2;ab0;x7;2;cdspare")
	was := bytes.Clone(whole)
	r := net.New(whole[:11])
	r.Num()
	r.Text()
	r.Text()
	// Behind these stands "x7", which is neither.
	r.Num()
	r.Text()
	if r.Left() != 2 || !bytes.Equal(whole, was) {
		t.Errorf("left %d, %q became %q", r.Left(), was, whole)
	}
}

func TestHandedInIsNotKept(t *testing.T) {
	b := []byte("-12;3;abc1;x7;")
	r := net.New(b)
	for i := range b {
		b[i] = '9'
	}
	n, isNum := r.Num()
	for i := range b {
		b[i] = ';'
	}
	s, isText := r.Text()
	if n != -12 || !isNum || s != "abc" || !isText || r.Left() != 5 {
		t.Errorf("%d, %v, %q, %v, left %d", n, isNum, s, isText, r.Left())
	}
	// What lies in the spare room behind the end is none of the Reader's.
	short := []byte("2;abc")[:3]
	r = net.New(short)
	if s, ok := r.Text(); s != "" || ok || r.Left() != 3 {
		t.Errorf("Text = %q, %v, left %d", s, ok, r.Left())
	}
	cut := []byte("12;")[:2]
	r = net.New(cut)
	if n, ok := r.Num(); n != 0 || ok || r.Left() != 2 {
		t.Errorf("Num = %d, %v, left %d", n, ok, r.Left())
	}
}

func TestTwoReadersShareNothing(t *testing.T) {
	b := []byte("1;2;")
	one, other := net.New(b), net.New(b)
	one.Num()
	one.Num()
	if n, ok := other.Num(); n != 1 || !ok || other.Left() != 2 || one.Left() != 0 {
		t.Errorf("%d, %v, left %d and %d", n, ok, other.Left(), one.Left())
	}
}

func TestAnswersAreNewMemory(t *testing.T) {
	spoil := func(b []byte) {
		b = b[:cap(b)]
		for i := range b {
			b[i] = '!'
		}
	}
	for _, c := range numbers {
		one, other := net.Num(c.n), net.Num(c.n)
		spoil(one)
		if string(other) != c.want || string(net.Num(c.n)) != c.want {
			t.Errorf("Num(%d) became %q", c.n, other)
		}
	}
	for _, c := range texts {
		s := strings.Clone(c.s)
		one, other := net.Text(s), net.Text(s)
		spoil(one)
		if string(other) != c.want || s != c.s || string(net.Text(s)) != c.want {
			t.Errorf("Text(%q) became %q", c.s, other)
		}
	}
}

func TestNothingIsLeft(t *testing.T) {
	for name, r := range map[string]*net.Reader{"nil": nil, "zero": {}, "of nil": net.New(nil), "of empty": net.New([]byte{})} {
		if n, ok := r.Num(); n != 0 || ok {
			t.Errorf("%s: Num = %d, %v", name, n, ok)
		}
		if s, ok := r.Text(); s != "" || ok {
			t.Errorf("%s: Text = %q, %v", name, s, ok)
		}
		if r.Left() != 0 {
			t.Errorf("%s: left %d", name, r.Left())
		}
	}
	if net.New(nil) == nil {
		t.Error("New(nil) is nil")
	}
}

func FuzzReader(f *testing.F) {
	for _, b := range noNumbers[:40] {
		f.Add([]byte(b))
	}
	for _, c := range texts {
		f.Add([]byte(c.want))
	}
	f.Fuzz(func(t *testing.T, b []byte) {
		if n, ok := net.New(b).Num(); ok && !bytes.HasPrefix(b, net.Num(n)) {
			t.Errorf("Num of %q = %d", b, n)
		}
		if s, ok := net.New(b).Text(); ok && !bytes.HasPrefix(b, net.Text(s)) {
			t.Errorf("Text of %q = %q", b, s)
		}
	})
}

package sum_test

import (
	"bytes"
	"hash/crc32"
	"math"
	"strings"
	"testing"

	"lazarus/sum"
)

// known are texts and their sums, worked out elsewhere.
var known = []struct {
	text string
	want uint32
}{
	{"", 0},
	{"123456789", 0xe3069283},
	{"a", 0xc1d04330},
	{"abc", 0x364b3fb7},
	{"\x00", 0x527d5351},
	{"\xff", 0xff000000},
	{strings.Repeat("\x00", 32), 0x8a9136aa},
	{strings.Repeat("\xff", 32), 0x62a8ab43},
	{rising(32), 0x46dd794e},
}

// numbers are ordinary ones and the edges, each in four bytes.
var numbers = []struct {
	n    uint32
	want string
}{
	{0, "\x00\x00\x00\x00"},
	{1, "\x00\x00\x00\x01"},
	{255, "\x00\x00\x00\xff"},
	{256, "\x00\x00\x01\x00"},
	{65535, "\x00\x00\xff\xff"},
	{65536, "\x00\x01\x00\x00"},
	{1<<24 - 1, "\x00\xff\xff\xff"},
	{1 << 24, "\x01\x00\x00\x00"},
	{0x01020304, "\x01\x02\x03\x04"},
	{0xfffefdfc, "\xff\xfe\xfd\xfc"},
	{0xe3069283, "\xe3\x06\x92\x83"},
	{math.MaxInt32, "\x7f\xff\xff\xff"},
	{1 << 31, "\x80\x00\x00\x00"},
	{math.MaxUint32 - 1, "\xff\xff\xff\xfe"},
	{math.MaxUint32, "\xff\xff\xff\xff"},
}

// rising is so many bytes, each one more than the one ahead of it.
func rising(size int) string {
	b := make([]byte, size)
	for i := range b {
		b[i] = byte(i)
	}
	return string(b)
}

// many is so many bytes without a plain pattern.
func many(size int) []byte {
	b := make([]byte, size)
	for i, x := 0, uint32(1); i < size; i++ {
		x = x*1664525 + 1013904223
		b[i] = byte(x >> 24)
	}
	return b
}

// elsewhere is the sum as the library of Go works it out.
func elsewhere(b []byte) uint32 {
	return crc32.Checksum(b, crc32.MakeTable(crc32.Castagnoli))
}

func TestKnownSums(t *testing.T) {
	for _, c := range known {
		if got := sum.Of([]byte(c.text)); got != c.want {
			t.Errorf("Of(%q) = %08x, want %08x", c.text, got, c.want)
		}
	}
}

func TestOneByte(t *testing.T) {
	seen := map[uint32]int{}
	for i := range 256 {
		b := []byte{byte(i)}
		got := sum.Of(b)
		if want := elsewhere(b); got != want {
			t.Errorf("Of(%x) = %08x, want %08x", b, got, want)
		}
		if was, ok := seen[got]; ok {
			t.Errorf("%d and %d have one sum", was, i)
		}
		seen[got] = i
	}
}

func TestEveryLength(t *testing.T) {
	b := many(1 << 16)
	for size := range 600 {
		if got, want := sum.Of(b[:size]), elsewhere(b[:size]); got != want {
			t.Fatalf("of %d bytes: %08x, want %08x", size, got, want)
		}
	}
	if got, want := sum.Of(b), elsewhere(b); got != want {
		t.Errorf("of %d bytes: %08x, want %08x", len(b), got, want)
	}
}

func TestNothingHasTheSum0(t *testing.T) {
	for name, rows := range map[string][][]byte{
		"nil rows":    nil,
		"no row":      {},
		"a nil row":   {nil},
		"an empty":    {{}},
		"some of all": {nil, {}, nil, nil, {}},
	} {
		if got := sum.Of(rows...); got != 0 {
			t.Errorf("%s: %08x", name, got)
		}
	}
	if got := sum.Of(); got != 0 {
		t.Errorf("without an argument: %08x", got)
	}
}

func TestRowsArePartedAnywhere(t *testing.T) {
	for _, b := range [][]byte{[]byte("123456789"), many(40), make([]byte, 20), bytes.Repeat([]byte{255}, 20)} {
		want := elsewhere(b)
		for i := range len(b) + 1 {
			if got := sum.Of(b[:i], b[i:]); got != want {
				t.Errorf("%x parted at %d: %08x, want %08x", b, i, got, want)
			}
			for j := i; j <= len(b); j++ {
				if got := sum.Of(nil, b[:i], b[i:j], []byte{}, b[j:], nil); got != want {
					t.Errorf("%x parted at %d, %d: %08x, want %08x", b, i, j, got, want)
				}
			}
		}
	}
}

func TestRowsOfOneByte(t *testing.T) {
	b := many(5000)
	var rows [][]byte
	for i := range b {
		rows = append(rows, b[i:i+1])
		if i%7 == 0 {
			rows = append(rows, nil, []byte{})
		}
	}
	if got, want := sum.Of(rows...), elsewhere(b); got != want {
		t.Errorf("%08x, want %08x", got, want)
	}
}

func TestOrderOfRowsMatters(t *testing.T) {
	one, other := []byte("1234"), []byte("56789")
	if sum.Of(other, one) != elsewhere([]byte("567891234")) || sum.Of(one, other) != 0xe3069283 {
		t.Errorf("%08x, %08x", sum.Of(other, one), sum.Of(one, other))
	}
	if got := sum.Of(one, one); got != elsewhere([]byte("12341234")) {
		t.Errorf("one row twice: %08x", got)
	}
}

func TestFourBytes(t *testing.T) {
	for _, c := range numbers {
		got := sum.Four(c.n)
		if string(got) != c.want {
			t.Errorf("Four(%08x) = %x, want %x", c.n, got, c.want)
		}
		if back := sum.Get(got); back != c.n {
			t.Errorf("Get(%x) = %08x, want %08x", got, back, c.n)
		}
	}
	for i := range 32 {
		n := uint32(1) << i
		want := make([]byte, 4)
		want[3-i/8] = 1 << (i % 8)
		if got := sum.Four(n); !bytes.Equal(got, want) || sum.Get(got) != n {
			t.Errorf("Four(%08x) = %x, want %x; Get of it %08x", n, got, want, sum.Get(got))
		}
	}
}

func TestGetOfFewer(t *testing.T) {
	for _, b := range [][]byte{nil, {}, {1}, {255}, {1, 2}, {0, 0}, {1, 2, 3}, {255, 255, 255}} {
		if got := sum.Get(b); got != 0 {
			t.Errorf("Get(%x) = %08x", b, got)
		}
	}
	// What lies in the spare room behind the end does not count.
	whole := []byte{1, 2, 3, 4, 5, 6}
	for size := range 4 {
		if got := sum.Get(whole[:size]); got != 0 {
			t.Errorf("Get(%x) = %08x", whole[:size], got)
		}
	}
}

func TestGetOfMore(t *testing.T) {
	for _, c := range numbers {
		for _, behind := range []string{"\x00", "\x01", "\xff", "\xff\xff\xff\xff", strings.Repeat("9", 1000)} {
			if got := sum.Get([]byte(c.want + behind)); got != c.n {
				t.Errorf("Get(%x and %d more) = %08x, want %08x", c.want, len(behind), got, c.n)
			}
		}
	}
}

func TestHandedInIsNotChanged(t *testing.T) {
	whole := many(64)
	was := bytes.Clone(whole)
	list := [][]byte{whole[:10], nil, whole[10:20:40], {}, whole[60:], whole[40:50]}
	rows := list[:4]
	sum.Of(rows...)
	sum.Get(whole[:3])
	sum.Get(whole[:4])
	sum.Get(whole)
	if !bytes.Equal(whole, was) {
		t.Errorf("%x became %x", was, whole)
	}
	if len(list[0]) != 10 || list[1] != nil || len(list[2]) != 10 || list[3] == nil || len(list[3]) != 0 ||
		!bytes.Equal(list[0], was[:10]) || !bytes.Equal(list[2], was[10:20]) ||
		!bytes.Equal(list[4], was[60:]) || !bytes.Equal(list[5], was[40:50]) {
		t.Errorf("the list of rows became %x", list)
	}
}

func TestHandedInIsNotKept(t *testing.T) {
	b := []byte("123456789")
	rows := [][]byte{b[:4], b[4:]}
	for range 2 {
		if got := sum.Of(rows...); got != 0xe3069283 {
			t.Errorf("before: %08x", got)
		}
	}
	// The same memory holds something else now: its sum is that of what it holds.
	copy(b, "abc")
	if got, want := sum.Of(rows...), elsewhere([]byte("abc456789")); got != want {
		t.Errorf("behind a change: %08x, want %08x", got, want)
	}
	if got := sum.Get(b); got != 0x61626334 {
		t.Errorf("Get = %08x", got)
	}
	copy(b, "\x00\x00\x00\x01")
	if got := sum.Get(b); got != 1 {
		t.Errorf("Get behind a change = %08x", got)
	}
}

func TestAnswersAreNewMemory(t *testing.T) {
	for _, c := range numbers {
		one, other := sum.Four(c.n), sum.Four(c.n)
		spare := one[:cap(one)]
		for i := range spare {
			spare[i] = '!'
		}
		if string(other) != c.want || string(sum.Four(c.n)) != c.want {
			t.Errorf("Four(%08x) became %x", c.n, other)
		}
	}
}

func FuzzSum(f *testing.F) {
	for _, c := range known {
		f.Add([]byte(c.text), uint8(len(c.text)/2), uint8(1))
	}
	f.Fuzz(func(t *testing.T, b []byte, i, j uint8) {
		first := min(int(i), len(b))
		second := min(first+int(j), len(b))
		want := elsewhere(b)
		if got := sum.Of(b); got != want {
			t.Errorf("Of(%x) = %08x, want %08x", b, got, want)
		}
		if got := sum.Of(b[:first], b[first:second], b[second:]); got != want {
			t.Errorf("%x parted at %d, %d: %08x, want %08x", b, first, second, got, want)
		}
		if len(b) >= 4 && !bytes.Equal(sum.Four(sum.Get(b)), b[:4]) {
			t.Errorf("Four(Get(%x)) = %x", b, sum.Four(sum.Get(b)))
		}
	})
}

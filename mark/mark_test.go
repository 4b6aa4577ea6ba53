package mark_test

import (
	"bytes"
	"math"
	"slices"
	"strconv"
	"strings"
	"testing"

	"lazarus/api"
	"lazarus/disk"
	"lazarus/mark"
	"lazarus/slot"
	"lazarus/span"
)

// known are marks of generation 0, each with its bytes.
var known = []struct {
	m    api.Mark
	want string
}{
	{api.Mark{}, "0;0;0;0;"},
	{call(1), "1;0;0;0;"},
	{call(3), "3;0;0;0;"},
	{call(10), "10;0;0;0;"},
	{call(1<<31 - 2), "2147483646;0;0;0;"},
	{call(1<<31 - 1), "2147483647;0;0;0;"},
	{done(0, 0, ""), "0;1;0;0;"},
	{done(3, 0, ""), "3;1;0;0;"},
	{done(3, 1, ""), "3;1;1;0;"},
	{done(3, 127, "a"), "3;1;127;1;a"},
	{done(12, -7, "a;b\xff"), "12;1;-7;4;a;b\xff"},
	{done(12, -1, "\n"), "12;1;-1;1;\n"},
	{done(1, math.MaxInt32, "\x00"), "1;1;2147483647;1;\x00"},
	{done(1, math.MinInt32, "\x00\x00"), "1;1;-2147483648;2;\x00\x00"},
	{done(1, math.MaxInt, "3;0;0;0;"), "1;1;9223372036854775807;8;3;0;0;0;"},
	{done(1, math.MinInt, ";"), "1;1;-9223372036854775808;1;;"},
	{done(1<<31-1, 5, "\u00e9\u20ac"), "2147483647;1;5;5;\u00e9\u20ac"},
	{done(2, 0, strings.Repeat("x", 100)), "2;1;0;100;" + strings.Repeat("x", 100)},
	{done(2, 0, string(text(1<<16))), "2;1;0;65536;" + string(text(1<<16))},
}

// noMarks have a number that is none, or an Answer ahead of the call.
var noMarks = []api.Mark{
	{N: -1},
	{N: -2},
	{N: math.MinInt32},
	{N: math.MinInt},
	{N: 1 << 31},
	{N: 1<<32 - 1},
	{N: 1 << 32},
	{N: 1<<32 + 3},
	{N: math.MaxInt},
	{N: -1, Done: true},
	{N: 1 << 31, Done: true, Answer: api.Answer{Status: 1, Out: "a"}},
	{Gen: -1},
	{Gen: -2},
	{Gen: math.MinInt32},
	{Gen: math.MinInt},
	{Gen: 1<<31 - 1},
	{Gen: 1 << 31},
	{Gen: 1<<32 - 2},
	{Gen: 1<<32 - 1},
	{Gen: 1 << 32},
	{Gen: 1<<32 + 4},
	{Gen: math.MaxInt},
	{Gen: -1, N: 3, Done: true},
	{Gen: 1<<31 - 1, N: 3, Done: true, Answer: api.Answer{Status: 1, Out: "a"}},
	{Answer: api.Answer{Status: 1}},
	{Answer: api.Answer{Status: -1}},
	{Answer: api.Answer{Status: 1 << 32}},
	{Answer: api.Answer{Out: "a"}},
	{Answer: api.Answer{Out: "\x00"}},
	{Gen: 4, N: 3, Answer: api.Answer{Status: 1, Out: "a"}},
}

// noMarkBytes are those of no mark.
var noMarkBytes = []string{
	"", ";", "3", "3;", "3;0", "3;0;", "3;0;0", "3;0;0;", "3;0;0;0",
	"3;0;0;0;x", "3;0;0;0;0", "3;0;0;0;;", "3;0;0;0;\x00", "3;0;0;0;3;0;0;0;", " 3;0;0;0;", "x3;0;0;0;",
	"03;0;0;0;", "+3;0;0;0;", "-0;0;0;0;", "3 ;0;0;0;", "0x3;0;0;0;", "3;00;0;0;", "3;-0;0;0;", "3;0;00;0;", "3;0;-0;0;", "3;0;0;00;", "3;0;0;-0;",
	"3;01;0;0;", "3;+1;0;0;", "3;1;01;0;", "3;1;+1;0;", "3;1;0;01;a", "3;1;0;+1;a",
	"3;2;0;0;", "3;-1;0;0;", "3;10;0;0;", "3;256;0;0;", "3;4294967296;0;0;", "3;4294967297;0;0;", "3;;0;0;", "3;true;0;0;",
	"3;0;1;0;", "3;0;-1;0;", "3;0;0;1;a", "3;0;1;1;a", "3;0;4294967296;0;",
	"-1;0;0;0;", "-1;1;0;0;", "2147483648;0;0;0;", "2147483648;1;0;0;", "4294967295;0;0;0;", "4294967296;0;0;0;", "4294967299;0;0;0;", "9223372036854775807;0;0;0;", "-9223372036854775808;0;0;0;", "9223372036854775808;0;0;0;", "18446744073709551619;0;0;0;",
	"3;1;9223372036854775808;0;", "3;1;-9223372036854775809;0;",
	"3;1;0;2;a", "3;1;0;1;", "3;1;0;1;ab", "3;1;0;0;a", "3;1;0;-1;", "3;1;0;9223372036854775807;a", "3;1;0;18446744073709551617;a",
	"3,0,0,0,", "3;0;0;0:", "a;0;0;0;", "3;0;a;0;", "\xff;0;0;0;", "0;3;0;0;0;", "4;3;0;0;0;", "3;1;0;", "3;1;a", "3;1;0;a",
}

// gens are generations, ordinary ones and the edges.
var gens = []int{0, 1, 2, 3, 254, 255, 256, 257, 65534, 65535, 1<<24 - 1, 1 << 24, 0x01020304, 1 << 30, 1<<31 - 3, 1<<31 - 2}

// noGens are numbers that no generation has.
var noGens = []int{-1, -2, math.MinInt32, math.MinInt, 1<<31 - 1, 1 << 31, 1<<32 - 2, 1<<32 - 1, 1 << 32, 1<<32 + 4, 1<<33 + 4, math.MaxInt}

// call is a mark of a call that is to be made.
func call(n int) api.Mark { return api.Mark{N: n} }

// done is a mark of a call that was made.
func done(n, status int, out string) api.Mark {
	return api.Mark{N: n, Done: true, Answer: api.Answer{Status: status, Out: out}}
}

// of is a mark of a generation.
func of(gen int, m api.Mark) api.Mark {
	m.Gen = gen
	return m
}

// sized is a mark that has so many bytes, at least 20.
func sized(n, size int) api.Mark {
	head := len(strconv.Itoa(n)) + len(";1;0;") + len(";")
	for digits := 1; ; digits++ {
		rest := size - head - digits
		if len(strconv.Itoa(rest)) <= digits {
			return done(n, 0, string(text(rest)))
		}
	}
}

// row is a sector of one letter.
func row(c byte) []byte { return bytes.Repeat([]byte{c}, api.Sector) }

// letter is what stands on a sector of a lettered disk.
func letter(i int) byte { return byte('a' + i%26) }

// text is so many bytes without a plain pattern, none of them 0.
func text(size int) []byte {
	b := make([]byte, size)
	for i, x := 0, uint32(7); i < size; i++ {
		x = x*1664525 + 1013904223
		b[i] = byte(x>>24) | 1
	}
	return b
}

// lettered is a disk with a letter on each sector, flushed, and no operation yet.
func lettered(t *testing.T, n int) *disk.Disk {
	t.Helper()
	d := disk.New(n)
	for i := range n {
		if e := d.Write(i, row(letter(i))); e != api.OK {
			t.Fatalf("Write(%d): %d", i, e)
		}
	}
	if e := d.Flush(); e != api.OK {
		t.Fatalf("Flush: %d", e)
	}
	d.Restart()
	return d
}

// all is each sector of a disk.
func all(d *disk.Disk) []string {
	var l []string
	for i := range d.Size() {
		l = append(l, string(d.Read(i)))
	}
	return l
}

// first is the journal's first sector, of a disk of n.
func first(n int) int { return 3 * n / 8 * 2 }

// sectors is how many of them so many bytes need.
func sectors(size int) int { return 1 + (size+15)/16 }

// mustAppend appends a mark, and answers where the next one goes.
func mustAppend(t *testing.T, d *disk.Disk, at int, m api.Mark) int {
	t.Helper()
	next, e := mark.Append(d, at, m)
	if want := at + sectors(len(mark.Bytes(m))); e != api.OK || next != want {
		t.Fatalf("Append(%d, %v) = %d, %d; want %d", at, m, next, e, want)
	}
	return next
}

// mustAppendAll appends marks, one behind the other, from the journal's first sector on.
func mustAppendAll(t *testing.T, d *disk.Disk, l ...api.Mark) int {
	t.Helper()
	at := first(d.Size())
	for _, m := range l {
		at = mustAppend(t, d, at, m)
	}
	return at
}

// mustScan says which marks there are.
func mustScan(t *testing.T, d *disk.Disk, gen int, want ...api.Mark) {
	t.Helper()
	at := first(d.Size())
	for _, m := range want {
		at += sectors(len(mark.Bytes(m)))
	}
	sectors, ops, down := all(d), d.Ops(), d.Down()
	l, next := mark.Scan(d, gen)
	if !slices.Equal(l, want) || next != at {
		t.Errorf("Scan(%d) = %v, %d; want %v, %d", gen, l, next, want, at)
	}
	if !slices.Equal(all(d), sectors) || d.Ops() != ops || d.Down() != down {
		t.Errorf("it changed: %q to %q", sectors, all(d))
	}
}

// mustStay says that Append answers an error, and changes nothing.
func mustStay(t *testing.T, d *disk.Disk, want api.Errno, at int, m api.Mark) {
	t.Helper()
	sectors, ops, down := all(d), d.Ops(), d.Down()
	if next, e := mark.Append(d, at, m); e != want || next != 0 {
		t.Errorf("Append(%d, %v) = %d, %d; want 0, %d", at, m, next, e, want)
	}
	if !slices.Equal(all(d), sectors) || d.Ops() != ops || d.Down() != down {
		t.Errorf("it changed: Ops %d to %d, Down %v to %v, %q to %q", ops, d.Ops(), down, d.Down(), sectors, all(d))
	}
}

func TestExample(t *testing.T) {
	if got := mark.Bytes(api.Mark{N: 3}); string(got) != "3;0;0;0;" {
		t.Errorf("%q", got)
	}
	if got := mark.Bytes(api.Mark{Gen: 7, N: 3}); string(got) != "3;0;0;0;" {
		t.Errorf("%q", got)
	}
}

func TestBytes(t *testing.T) {
	for _, c := range known {
		for _, gen := range gens {
			if got := mark.Bytes(of(gen, c.m)); string(got) != c.want {
				t.Errorf("Bytes(%v) = %q, want %q", of(gen, c.m), got, c.want)
			}
		}
	}
}

func TestBytesOfNoMark(t *testing.T) {
	for _, m := range noMarks {
		if got := mark.Bytes(m); len(got) != 0 {
			t.Errorf("Bytes(%v) = %q", m, got)
		}
	}
}

func TestRead(t *testing.T) {
	for _, c := range known {
		if m, ok := mark.Read([]byte(c.want)); m != c.m || !ok {
			t.Errorf("Read(%q) = %v, %v; want %v", c.want, m, ok, c.m)
		}
	}
}

func TestReadOfNoMark(t *testing.T) {
	for _, s := range noMarkBytes {
		if m, ok := mark.Read([]byte(s)); m != (api.Mark{}) || ok {
			t.Errorf("Read(%q) = %v, %v", s, m, ok)
		}
	}
	if m, ok := mark.Read(nil); m != (api.Mark{}) || ok {
		t.Errorf("Read(nil) = %v, %v", m, ok)
	}
}

func TestReadOfWhatWasCutOrTurned(t *testing.T) {
	for _, c := range known {
		b := []byte(c.want)
		for i := range min(len(b), 200) {
			if m, ok := mark.Read(b[:i]); m != (api.Mark{}) || ok {
				t.Errorf("Read(%q) = %v, %v", b[:i], m, ok)
			}
		}
		for _, more := range []string{"\x00", ";", "0", "a", c.want} {
			if m, ok := mark.Read([]byte(c.want + more)); m != (api.Mark{}) || ok {
				t.Errorf("Read(%q) = %v, %v", c.want+more, m, ok)
			}
		}
		for i := range min(len(b), 40) {
			for x := range 256 {
				turned := bytes.Clone(b)
				turned[i] = byte(x)
				m, ok := mark.Read(turned)
				if ok && string(mark.Bytes(m)) != string(turned) || !ok && m != (api.Mark{}) {
					t.Errorf("Read(%q) = %v, %v", turned, m, ok)
				}
			}
		}
	}
}

func TestAppend(t *testing.T) {
	for _, gen := range gens {
		for _, c := range known[:18] {
			for _, at := range []int{30, 31, 32} {
				d, m := lettered(t, 40), of(gen, c.m)
				was := all(d)
				next := mustAppend(t, d, at, m)
				for range 2 {
					if tag, b, ok := span.Get(d, at, next-at); tag != uint32(gen+1) || string(b) != c.want || !ok {
						t.Errorf("%v: at %d stands %d, %q, %v", m, at, tag, b, ok)
					}
					now := all(d)
					if next < 40 && now[next] != string(make([]byte, api.Sector)) {
						t.Errorf("%v: behind it stands %q", m, now[next])
					}
					if !slices.Equal(now[:at], was[:at]) || next < 40 && !slices.Equal(now[next+1:], was[next+1:]) {
						t.Errorf("%v: other sectors changed: %q", m, now)
					}
					// It was flushed.
					d.Restart()
				}
			}
		}
	}
}

func TestAppendNoMark(t *testing.T) {
	for _, m := range noMarks {
		d := lettered(t, 40)
		d.Write(0, row('!'))
		for _, at := range []int{-1, 0, 29, 30, 31, 38, 39, 40} {
			mustStay(t, d, api.ErrArg, at, m)
		}
		// Both are wrong: what is named first counts.
		m.Answer.Out = string(text(1 << 10))
		mustStay(t, d, api.ErrArg, 30, m)
		mustStay(t, d, api.ErrArg, 39, m)
		// It is no operation: the disk does not crash there.
		d.Arm(api.Crash{})
		mustStay(t, d, api.ErrArg, 30, m)
		if e := d.Flush(); e != api.ErrCrash {
			t.Errorf("Append(%v): what was armed is not", m)
		}
		mustStay(t, d, api.ErrArg, 30, m)
		mustStay(t, nil, api.ErrArg, 0, m)
		// What was pending was so still.
		if got := d.Read(0); !bytes.Equal(got, row(letter(0))) {
			t.Errorf("Append(%v): it was flushed: %q", m, got)
		}
	}
}

func TestAppendAtNoSector(t *testing.T) {
	for n := range 40 {
		for _, at := range []int{first(n) - 1, first(n) - 2, 0, -1, -2, math.MinInt32, math.MinInt, n, n + 1, n + 7, 1 << 31, 1<<32 + n - 1, math.MaxInt - 1, math.MaxInt} {
			if at >= first(n) && at < n {
				continue
			}
			d := lettered(t, n)
			mustStay(t, d, api.ErrArg, at, call(3))
			mustStay(t, d, api.ErrArg, at, of(4, done(3, 1, "a")))
			// Both are wrong: what is named first counts.
			mustStay(t, d, api.ErrArg, at, sized(3, 1<<10))
			d.Arm(api.Crash{})
			mustStay(t, d, api.ErrArg, at, call(3))
			d.Flush()
			mustStay(t, d, api.ErrArg, at, call(3))
		}
	}
}

func TestJustRoom(t *testing.T) {
	for n := 1; n < 40; n++ {
		for at := first(n); at < n; at++ {
			left := api.Sector * (n - at - 1)
			for _, size := range []int{20, 32, 33, left - 17, left - 16, left - 15, left - 1, left, left + 1, left + 15, left + 16, left + 17, 1 << 12} {
				if size < 20 {
					continue
				}
				d, m := lettered(t, n), of(4, sized(3, size))
				if got := len(mark.Bytes(m)); got != size {
					t.Fatalf("it has %d bytes, not %d", got, size)
				}
				if size > left {
					d.Write(0, row('!'))
					mustStay(t, d, api.ErrFull, at, m)
					d.Restart()
					if !bytes.Equal(d.Read(0), row(letter(0))) {
						t.Errorf("of %d sectors: it was flushed", n)
					}
					continue
				}
				mustAppend(t, d, at, m)
				if tag, b, ok := span.Get(d, at, n-at); tag != 5 || !bytes.Equal(b, mark.Bytes(m)) || !ok {
					t.Errorf("of %d sectors, at %d: %d, %q, %v", n, at, tag, b, ok)
				}
			}
		}
	}
}

func TestNotDoneJustRoom(t *testing.T) {
	// 16 bytes are one sector behind the head, 17 are two.
	one, two := call(1<<31-1), done(1<<31-1, 10, "a")
	if len(mark.Bytes(one)) != 17 || len(mark.Bytes(call(999_999_999))) != 16 || len(mark.Bytes(two)) != 19 {
		t.Fatal("other sizes")
	}
	d := lettered(t, 40)
	mustAppend(t, d, 38, call(999_999_999))
	mustAppend(t, d, 37, one)
	mustStay(t, d, api.ErrFull, 38, one)
	mustStay(t, d, api.ErrFull, 39, call(0))
	mustStay(t, d, api.ErrFull, 39, done(0, 0, ""))
	mustStay(t, d, api.ErrFull, 38, two)
}

func TestFullIsNoOperation(t *testing.T) {
	d := lettered(t, 40)
	at := mustAppendAll(t, d, of(4, call(0)), of(4, done(0, 0, "out")))
	d.Restart()
	d.Arm(api.Crash{})
	mustStay(t, d, api.ErrFull, at, of(4, sized(1, 81)))
	mustScan(t, d, 4, of(4, call(0)), of(4, done(0, 0, "out")))
	if next, e := mark.Append(d, at, of(4, sized(1, 80))); next != 0 || e != api.ErrCrash || !d.Down() {
		t.Errorf("%d, %d, Down %v", next, e, d.Down())
	}
	// Both are wrong: what is named first counts.
	mustStay(t, d, api.ErrFull, at, of(4, sized(1, 81)))
	mustStay(t, d, api.ErrCrash, at, of(4, sized(1, 80)))
}

func TestNothingBehind(t *testing.T) {
	d := lettered(t, 40)
	was := all(d)
	mustAppend(t, d, 38, of(4, call(0)))
	// Two writes and two flushes: there is no sector behind it that is to be cleared.
	if d.Ops() != 4 || !slices.Equal(all(d)[:38], was[:38]) {
		t.Errorf("Ops %d, %q", d.Ops(), all(d))
	}
	d = lettered(t, 40)
	mustAppend(t, d, 37, of(4, call(0)))
	if d.Ops() != 6 || !slices.Equal(all(d)[:37], was[:37]) {
		t.Errorf("Ops %d, %q", d.Ops(), all(d))
	}
	for i := range 6 {
		d.Restart()
		l := make([]api.Mark, 5)
		for n := range l {
			l[n] = of(i, call(n))
		}
		if next := mustAppendAll(t, d, l...); next != 40 {
			t.Errorf("next is %d", next)
		}
		mustScan(t, d, i, l...)
		mustStay(t, d, api.ErrArg, 40, of(i, call(5)))
		d.Restart()
		mustScan(t, d, i, l...)
	}
}

func TestSmallDisks(t *testing.T) {
	for n := range 40 {
		d := lettered(t, n)
		if first(n) != 2*slot.Room(d) {
			t.Fatalf("of %d sectors: the journal begins at %d", n, 2*slot.Room(d))
		}
		mustScan(t, d, 0)
		mustScan(t, d, 4)
		at, l := first(n), []api.Mark(nil)
		for at+2 <= n {
			l = append(l, of(4, call(len(l))))
			at = mustAppend(t, d, at, l[len(l)-1])
			mustScan(t, d, 4, l...)
		}
		if at < n {
			mustStay(t, d, api.ErrFull, at, of(4, call(0)))
		} else {
			mustStay(t, d, api.ErrArg, at, of(4, call(0)))
		}
		mustScan(t, d, 4, l...)
		d.Restart()
		mustScan(t, d, 4, l...)
	}
}

func TestNilDisk(t *testing.T) {
	var zero disk.Disk
	for _, d := range []*disk.Disk{nil, &zero, disk.New(0)} {
		for _, gen := range append(slices.Clone(gens), noGens...) {
			mustScan(t, d, gen)
		}
		for _, at := range []int{-1, 0, 1} {
			mustStay(t, d, api.ErrArg, at, call(0))
			mustStay(t, d, api.ErrArg, at, sized(0, 1<<10))
			mustStay(t, d, api.ErrArg, at, call(-1))
		}
	}
}

func TestDownDisk(t *testing.T) {
	d := lettered(t, 40)
	l := []api.Mark{of(4, call(0)), of(4, done(0, 1, "some output"))}
	at := mustAppendAll(t, d, l...)
	d.Write(at, row('!'))
	d.Arm(api.Crash{})
	d.Flush()
	for range 2 {
		// What was flushed is to be had, although it is Down.
		mustScan(t, d, 4, l...)
		mustScan(t, d, 3)
		mustStay(t, d, api.ErrCrash, at, of(4, call(1)))
		mustStay(t, d, api.ErrCrash, 38, of(4, call(1)))
		mustStay(t, d, api.ErrFull, 39, of(4, call(1)))
		mustStay(t, d, api.ErrArg, 40, of(4, call(1)))
		mustStay(t, d, api.ErrArg, 29, of(4, call(1)))
		mustStay(t, d, api.ErrArg, at, of(4, call(-1)))
	}
	d.Restart()
	mustScan(t, d, 4, l...)
	mustAppend(t, d, at, of(4, call(1)))
	mustScan(t, d, 4, append(l, of(4, call(1)))...)
}

func TestScanOfNothing(t *testing.T) {
	for _, n := range []int{0, 1, 2, 3, 8, 40, api.Sectors} {
		for _, gen := range append(slices.Clone(gens), noGens...) {
			mustScan(t, disk.New(n), gen)
			mustScan(t, lettered(t, n), gen)
		}
	}
}

func TestScanOfOneGeneration(t *testing.T) {
	for _, gen := range gens {
		d := lettered(t, 80)
		var l []api.Mark
		for i, m := range []api.Mark{call(0), done(0, 0, ""), call(1), done(1, -1, "two\nlines\n"), call(2), done(2, 127, "")} {
			l = append(l, of(gen, m))
			mustAppend(t, d, mustEnd(t, d, gen, i), of(gen, m))
			mustScan(t, d, gen, l...)
		}
		d.Restart()
		mustScan(t, d, gen, l...)
		for _, other := range gens {
			if other != gen {
				mustScan(t, d, other)
			}
		}
		for _, other := range noGens {
			mustScan(t, d, other)
		}
	}
}

// mustEnd is where the next mark goes, behind so many.
func mustEnd(t *testing.T, d *disk.Disk, gen, count int) int {
	t.Helper()
	l, next := mark.Scan(d, gen)
	if len(l) != count {
		t.Fatalf("Scan(%d) = %v; want %d marks", gen, l, count)
	}
	return next
}

func TestScanOfNoGeneration(t *testing.T) {
	// What is put by itself may have any tag; none of them is that of such a number.
	for _, gen := range noGens {
		for _, tag := range []uint32{uint32(gen), uint32(gen) + 1, 1 << 31, math.MaxUint32, 1} {
			d := disk.New(40)
			if e := span.Put(d, 30, 10, tag, []byte("3;0;0;0;")); e != api.OK {
				t.Fatal(e)
			}
			mustScan(t, d, gen)
		}
	}
}

func TestScanBehindOthers(t *testing.T) {
	// Of the marks that stand one behind the other the first one of another generation is the end.
	for _, c := range [][]int{{4}, {4, 4}, {4, 5}, {5, 4}, {4, 4, 3, 4}, {4, 5, 4, 5}, {3, 4, 4}, {4, 4, 4, 5, 4}} {
		d := disk.New(60)
		var l []api.Mark
		for n, gen := range c {
			l = append(l, of(gen, call(n)))
		}
		mustAppendAll(t, d, l...)
		for _, gen := range []int{3, 4, 5} {
			end := slices.IndexFunc(c, func(x int) bool { return x != gen })
			if end < 0 {
				end = len(c)
			}
			mustScan(t, d, gen, l[:end]...)
		}
	}
}

func TestScanEndsWhereNothingReads(t *testing.T) {
	for _, s := range append(slices.Clone(noMarkBytes), string(text(30))) {
		d := disk.New(60)
		at := mustAppendAll(t, d, of(4, call(0)), of(4, done(0, 0, "out")))
		need := sectors(len(s))
		if e := span.Put(d, at, need, 5, []byte(s)); e != api.OK {
			t.Fatal(e)
		}
		mustAppend(t, d, at+need, of(4, call(2)))
		mustScan(t, d, 4, of(4, call(0)), of(4, done(0, 0, "out")))
		// Where it is the first one, there is nothing.
		if e := span.Put(d, first(60), need, 5, []byte(s)); e != api.OK {
			t.Fatal(e)
		}
		mustScan(t, d, 4)
	}
}

func TestScanOfWhatWasPut(t *testing.T) {
	// What reads counts, whoever put it.
	for _, c := range known[:17] {
		d := disk.New(60)
		at := first(60)
		for range 2 {
			if e := span.Put(d, at, 6, 5, []byte(c.want)); e != api.OK {
				t.Fatal(e)
			}
			at += span.Need(len(c.want))
		}
		mustScan(t, d, 4, of(4, c.m), of(4, c.m))
	}
}

func TestScanBeginsAtTheJournal(t *testing.T) {
	d := disk.New(40)
	for _, at := range []int{0, 13, 15, 26, 28} {
		if e := span.Put(d, at, 2, 5, []byte("3;0;0;0;")); e != api.OK {
			t.Fatal(e)
		}
		mustScan(t, d, 4)
	}
	for at := 31; at < 39; at++ {
		d := disk.New(40)
		mustAppend(t, d, at, of(4, call(3)))
		mustScan(t, d, 4)
	}
}

func TestScanOfWhatWasTurned(t *testing.T) {
	l := []api.Mark{of(4, call(0)), of(4, done(0, 1, "some output")), of(4, call(1))}
	d := disk.New(40)
	mustAppendAll(t, d, l...)
	at := first(40)
	for k, m := range l {
		b := mark.Bytes(m)
		for i := range api.Sector + len(b) {
			was := d.Read(at + i/api.Sector)
			turned := bytes.Clone(was)
			turned[i%api.Sector] ^= 1
			d.Write(at+i/api.Sector, turned)
			mustScan(t, d, 4, l[:k]...)
			d.Write(at+i/api.Sector, was)
		}
		at += sectors(len(b))
	}
	mustScan(t, d, 4, l...)
}

func TestElderMarksWereLonger(t *testing.T) {
	for size := 20; size < 300; size += 7 {
		d := disk.New(80)
		var elder []api.Mark
		for at := first(80); at+sectors(size) <= 80; at += sectors(size) {
			elder = append(elder, of(4, sized(len(elder), size)))
		}
		mustAppendAll(t, d, elder...)
		mustScan(t, d, 4, elder...)
		var l []api.Mark
		for n := range 10 {
			mustScan(t, d, 5, l...)
			mustAppend(t, d, first(80)+2*n, of(5, call(n)))
			l = append(l, of(5, call(n)))
			mustScan(t, d, 5, l...)
			mustScan(t, d, 4)
		}
	}
}

func TestOneGenerationAgain(t *testing.T) {
	// The same generation from the first sector on once more: what was Appended there is Scanned, and nothing else.
	d := disk.New(80)
	long := []api.Mark{of(4, sized(0, 40)), of(4, call(1)), of(4, sized(1, 90)), of(4, call(2))}
	short := []api.Mark{of(4, call(0)), of(4, done(0, 0, "")), of(4, call(1)), of(4, done(1, 0, ""))}
	for range 2 {
		mustAppendAll(t, d, long...)
		mustScan(t, d, 4, long...)
		for n := range short {
			mustAppendAll(t, d, short[:n+1]...)
			mustScan(t, d, 4, short[:n+1]...)
		}
	}
}

func TestAnswersThatLookLikeMarks(t *testing.T) {
	for _, gen := range []int{0, 4, 254, 1<<31 - 3} {
		for sector := range 2 {
			out := likeMarks(of(gen, done(0, 0, strings.Repeat("x", 200))), gen+1, sector, 5)
			elder := of(gen, done(0, 0, out))
			d := disk.New(80)
			mustAppendAll(t, d, elder)
			mustBeWithin(t, d, gen+1, first(80)+2+sector)
			mustScan(t, d, gen, elder)
			mustScan(t, d, gen+1)
			var l []api.Mark
			at := first(80)
			for n := range 8 {
				m := of(gen+1, call(n))
				if n%3 == 2 {
					// Three sectors, so that what is behind it begins at an odd one.
					m = of(gen+1, sized(n, 20))
				}
				at = mustAppend(t, d, at, m)
				l = append(l, m)
				mustScan(t, d, gen+1, l...)
			}
		}
	}
}

func TestAnswersThatLookLikeMarksOfTheirOwn(t *testing.T) {
	for sector := range 2 {
		out := likeMarks(of(4, done(0, 0, strings.Repeat("x", 200))), 4, sector, 5)
		l := []api.Mark{of(4, done(0, 0, out)), of(4, call(1)), of(4, done(1, 0, out))}
		d := disk.New(160)
		mustAppendAll(t, d, l...)
		mustBeWithin(t, d, 4, first(160)+2+sector)
		mustScan(t, d, 4, l...)
	}
}

// likeMarks is an Out as long as that of m, in which so many marks of a generation stand, at every second
// sector, from one of the first sectors behind the mark's own numbers on.
func likeMarks(m api.Mark, gen, sector, count int) string {
	ahead := len(mark.Bytes(m)) - len(m.Answer.Out)
	out := strings.Repeat("x", api.Sector*(1+sector)-ahead)
	for n := range count {
		b := mark.Bytes(of(gen, call(100+n)))
		out += string(headOf(uint32(gen+1), b)) + string(b) + strings.Repeat("\x00", api.Sector-len(b))
	}
	return out + strings.Repeat("x", len(m.Answer.Out)-len(out))
}

// mustBeWithin says that a span of a mark stands within another one, at a sector; else a test tells nothing.
func mustBeWithin(t *testing.T, d *disk.Disk, gen, at int) {
	t.Helper()
	if tag, b, ok := span.Get(d, at, 2); tag != uint32(gen+1) || string(b) != "100;0;0;0;" || !ok {
		t.Fatalf("at %d stands %d, %q, %v", at, tag, b, ok)
	}
}

func TestWithSlots(t *testing.T) {
	// Slots and journal leave one another alone.
	d := lettered(t, 40)
	saved := text(14 * api.Sector)
	if e := slot.Save(d, 1, saved); e != api.OK {
		t.Fatal(e)
	}
	l := []api.Mark{of(1, call(0)), of(1, done(0, 0, "out")), of(1, call(1))}
	mustAppendAll(t, d, l...)
	if gen, b, ok := slot.Load(d); gen != 1 || !bytes.Equal(b, saved) || !ok {
		t.Errorf("%d, %q, %v", gen, b, ok)
	}
	for gen := 2; gen < 6; gen++ {
		if e := slot.Save(d, gen, saved); e != api.OK {
			t.Fatal(e)
		}
		mustScan(t, d, 1, l...)
	}
}

func TestTheWholeDisk(t *testing.T) {
	d := disk.New(api.Sectors)
	all := of(4, sized(3, 999*api.Sector))
	mustStay(t, d, api.ErrFull, 3000, of(4, sized(3, 999*api.Sector+1)))
	mustStay(t, d, api.ErrFull, 3001, all)
	if next := mustAppend(t, d, 3000, all); next != 4000 {
		t.Errorf("next is %d", next)
	}
	mustScan(t, d, 4, all)
	var l []api.Mark
	for n := range 500 {
		l = append(l, of(5, call(n)))
	}
	mustAppendAll(t, d, l[:499]...)
	mustScan(t, d, 5, l[:499]...)
	mustAppend(t, d, 3998, l[499])
	mustScan(t, d, 5, l...)
}

func TestHandedInIsNeitherChangedNorKept(t *testing.T) {
	for _, c := range known {
		whole := []byte(c.want + "!!!!!!!!")
		was := bytes.Clone(whole)
		m, ok := mark.Read(whole[:len(c.want)])
		if !bytes.Equal(whole, was) {
			t.Errorf("%q became %q", was, whole)
		}
		for i := range whole {
			whole[i] = '?'
		}
		if m != c.m || !ok {
			t.Errorf("%v became %v", c.m, m)
		}
	}
	for _, s := range noMarkBytes {
		whole := []byte(s + "!!!!!!!!")
		was := bytes.Clone(whole)
		mark.Read(whole[:len(s)])
		if !bytes.Equal(whole, was) {
			t.Errorf("%q became %q", was, whole)
		}
	}
}

func TestBytesAreNewMemory(t *testing.T) {
	for _, c := range known {
		one, other := mark.Bytes(c.m), mark.Bytes(c.m)
		spare := one[:cap(one)]
		for i := range spare {
			spare[i] = '!'
		}
		if string(other) != c.want || string(mark.Bytes(c.m)) != c.want {
			t.Errorf("%q, %q; want %q", other, mark.Bytes(c.m), c.want)
		}
	}
}

func TestScansAreNewMemory(t *testing.T) {
	for count := range 6 {
		d := disk.New(40)
		var l []api.Mark
		for n := range count {
			l = append(l, of(4, call(n)))
		}
		mustAppendAll(t, d, l...)
		was := all(d)
		one, _ := mark.Scan(d, 4)
		other, _ := mark.Scan(d, 4)
		spare := one[:cap(one)]
		for i := range spare {
			spare[i] = done(99, 99, "!")
		}
		if !slices.Equal(other, l) || !slices.Equal(all(d), was) {
			t.Errorf("%v, want %v; %q, want %q", other, l, all(d), was)
		}
		mustScan(t, d, 4, l...)
		// An answer stays what it is.
		mustAppendAll(t, d, of(4, sized(7, 60)), of(4, sized(8, 30)))
		if !slices.Equal(other, l) {
			t.Errorf("%v became %v", l, other)
		}
	}
}

package span_test

import (
	"bytes"
	"math"
	"slices"
	"strings"
	"testing"

	"lazarus/api"
	"lazarus/disk"
	"lazarus/span"
)

// sizes are how many bytes a span has: few, whole sectors, one more and one less.
var sizes = []int{0, 1, 2, 15, 16, 17, 31, 32, 33, 47, 48, 49, 100, 256, 257}

// tags are ordinary ones and the edges, those too that share their first or last bytes.
var tags = []uint32{1, 2, 4, 5, 77, 255, 256, 257, 0x105, 0x01000005, 0x05000000, 0x05050505, 1<<31 - 1, 1 << 31, math.MaxUint32 - 1, math.MaxUint32}

// row is a sector of one letter.
func row(c byte) []byte { return bytes.Repeat([]byte{c}, api.Sector) }

// noughts is so many of them.
func noughts(n int) string { return strings.Repeat("\x00", n) }

// text is so many bytes without a plain pattern, none of them 0.
func text(size int) []byte {
	b := make([]byte, size)
	for i, x := 0, uint32(7); i < size; i++ {
		x = x*1664525 + 1013904223
		b[i] = byte(x>>24) | 1
	}
	return b
}

// backward is such bytes, the last one first.
func backward(size int) []byte {
	b := text(size)
	slices.Reverse(b)
	return b
}

// lettered is a disk with a letter on each sector, flushed, and no operation yet.
func lettered(t *testing.T, n int) *disk.Disk {
	t.Helper()
	d := disk.New(n)
	for i := range n {
		if e := d.Write(i, row(letter(i))); e != api.OK {
			t.Fatalf("Write(%d): %d", i, e)
		}
	}
	if e := d.Flush(); e != api.OK {
		t.Fatalf("Flush: %d", e)
	}
	d.Restart()
	return d
}

// letter is what stands on a sector of a lettered disk.
func letter(i int) byte { return byte('a' + i%26) }

// all is each sector of a disk.
func all(d *disk.Disk) []string {
	var l []string
	for i := range d.Size() {
		l = append(l, string(d.Read(i)))
	}
	return l
}

// mustPut puts a span.
func mustPut(t *testing.T, d *disk.Disk, at, room int, tag uint32, b []byte) {
	t.Helper()
	if e := span.Put(d, at, room, tag, b); e != api.OK {
		t.Fatalf("Put(%d, %d, %d, %d bytes): %d", at, room, tag, len(b), e)
	}
}

// mustGet says that there is a span.
func mustGet(t *testing.T, d *disk.Disk, at, room int, tag uint32, b []byte) {
	t.Helper()
	gotTag, got, ok := span.Get(d, at, room)
	if !ok || gotTag != tag || !bytes.Equal(got, b) {
		t.Errorf("Get(%d, %d) = %d, %q, %v; want %d, %q", at, room, gotTag, got, ok, tag, b)
	}
}

// mustGetNone says that there is no span.
func mustGetNone(t *testing.T, d *disk.Disk, at, room int) {
	t.Helper()
	if tag, b, ok := span.Get(d, at, room); ok || tag != 0 || len(b) != 0 {
		t.Errorf("Get(%d, %d) = %d, %q, %v", at, room, tag, b, ok)
	}
}

// mustStay says that what is done answers an error, and changes nothing.
func mustStay(t *testing.T, d *disk.Disk, want api.Errno, do func() api.Errno) {
	t.Helper()
	sectors, ops, down := all(d), d.Ops(), d.Down()
	if e := do(); e != want {
		t.Errorf("%d, want %d", e, want)
	}
	if !slices.Equal(all(d), sectors) || d.Ops() != ops || d.Down() != down {
		t.Errorf("it changed: Ops %d to %d, Down %v to %v, %q to %q", ops, d.Ops(), down, d.Down(), sectors, all(d))
	}
}

// overwrite writes a sector, and flushes it.
func overwrite(t *testing.T, d *disk.Disk, i int, b []byte) {
	t.Helper()
	if d.Write(i, b) != api.OK || d.Flush() != api.OK {
		t.Fatalf("sector %d is not written", i)
	}
}

func TestExample(t *testing.T) {
	if got := span.Need(17); got != 3 {
		t.Errorf("Need(17) = %d", got)
	}
}

func TestNeed(t *testing.T) {
	for n, want := range map[int]int{
		math.MinInt: 0, math.MinInt32: 0, -17: 0, -16: 0, -15: 0, -2: 0, -1: 0,
		0: 1, 1: 2, 2: 2, 15: 2, 16: 2, 17: 3, 31: 3, 32: 3, 33: 4, 48: 4, 49: 5, 4000: 251,
		api.Sector * api.Sectors: api.Sectors + 1,
		math.MaxInt32:            1<<27 + 1,
		math.MaxInt - 15:         math.MaxInt/16 + 1,
		math.MaxInt - 14:         math.MaxInt/16 + 2,
		math.MaxInt - 1:          math.MaxInt/16 + 2,
		math.MaxInt:              math.MaxInt/16 + 2,
	} {
		if got := span.Need(n); got != want {
			t.Errorf("Need(%d) = %d, want %d", n, got, want)
		}
	}
}

func TestNeedStepByStep(t *testing.T) {
	want := 1
	for n := range 5000 {
		if n%api.Sector == 1 {
			want++
		}
		if got := span.Need(n); got != want {
			t.Fatalf("Need(%d) = %d, want %d", n, got, want)
		}
	}
}

func TestKnownSpan(t *testing.T) {
	d := lettered(t, 5)
	mustPut(t, d, 1, 2, 0x01020304, []byte("123456789"))
	want := []string{
		string(row('a')),
		"\x01\x02\x03\x04\x00\x00\x00\x09\xe3\x06\x92\x83\x01\x02\x03\x04",
		"123456789" + noughts(7),
		string(row('d')),
		string(row('e')),
	}
	if !slices.Equal(all(d), want) {
		t.Errorf("%q, want %q", all(d), want)
	}
	mustGet(t, d, 1, 2, 0x01020304, []byte("123456789"))
}

func TestSizes(t *testing.T) {
	for _, size := range sizes {
		d, b := lettered(t, 24), text(size)
		need := span.Need(size)
		mustPut(t, d, 3, need, 9, b)
		if want := need + 2; d.Ops() != want {
			t.Errorf("of %d bytes: %d operations, want %d", size, d.Ops(), want)
		}
		// Nothing is pending any more, so that Restart takes nothing away.
		d.Restart()
		mustGet(t, d, 3, need, 9, b)
		for i, got := range all(d) {
			want := string(row(letter(i)))
			switch {
			case i == 3:
				want = string(headOf(9, b))
			case i > 3 && i < 3+need:
				filled := string(b) + noughts(api.Sector)
				want = filled[(i-4)*api.Sector:][:api.Sector]
			}
			if got != want {
				t.Errorf("of %d bytes: sector %d is %q, want %q", size, i, got, want)
			}
		}
	}
}

func TestBytesThatAreNoughts(t *testing.T) {
	for _, size := range sizes {
		for _, c := range []byte{0, 255} {
			d, b := lettered(t, 20), bytes.Repeat([]byte{c}, size)
			mustPut(t, d, 0, 20, 3, b)
			mustGet(t, d, 0, 20, 3, b)
		}
	}
}

func TestTheWholeDisk(t *testing.T) {
	d, b := disk.New(api.Sectors), text((api.Sectors-1)*api.Sector)
	mustStay(t, d, api.ErrFull, func() api.Errno { return span.Put(d, 0, api.Sectors, 1, append(slices.Clip(b), 1)) })
	mustStay(t, d, api.ErrFull, func() api.Errno { return span.Put(d, 0, api.Sectors-1, 1, b) })
	mustPut(t, d, 0, api.Sectors, 1, b)
	d.Restart()
	mustGet(t, d, 0, api.Sectors, 1, b)
	mustGetNone(t, d, 0, api.Sectors-1)
	one := disk.New(1)
	mustPut(t, one, 0, 1, 1, nil)
	mustGet(t, one, 0, 1, 1, nil)
}

func TestRoom(t *testing.T) {
	for _, size := range sizes {
		need, b := span.Need(size), text(size)
		for _, room := range []int{math.MinInt, math.MinInt32, -need, -1, 0, need - 1} {
			d := lettered(t, 24)
			mustPut(t, d, 2, 1, 6, nil)
			d.Write(23, row('?'))
			mustStay(t, d, api.ErrFull, func() api.Errno { return span.Put(d, 2, room, 7, b) })
			mustGet(t, d, 2, 1, 6, nil)
			mustGetNone(t, d, 2, min(room, 0))
			// What was pending is so still.
			d.Restart()
			if got := d.Read(23); !bytes.Equal(got, row(letter(23))) {
				t.Errorf("of %d bytes, room %d: it was flushed: %q", size, room, got)
			}
		}
		for _, room := range []int{need, need + 1, 24, 25, api.Sectors + 1, math.MaxInt32, math.MaxInt} {
			d := lettered(t, 24)
			mustPut(t, d, 2, room, 7, b)
			mustGet(t, d, 2, room, 7, b)
			mustGetNone(t, d, 2, need-1)
			mustGetNone(t, d, 2, 0)
			mustGetNone(t, d, 2, -1)
			mustGetNone(t, d, 2, math.MinInt)
		}
	}
}

func TestNoRoomIsNoOperation(t *testing.T) {
	d := lettered(t, 4)
	d.Arm(api.Crash{})
	mustStay(t, d, api.ErrFull, func() api.Errno { return span.Put(d, 0, 1, 5, []byte("a")) })
	if e := span.Put(d, 0, 2, 5, []byte("a")); e != api.ErrCrash || !d.Down() {
		t.Errorf("%d, Down %v", e, d.Down())
	}
	// Both are wrong: what is named first counts.
	mustStay(t, d, api.ErrFull, func() api.Errno { return span.Put(d, 0, 1, 5, []byte("a")) })
	mustStay(t, d, api.ErrFull, func() api.Errno { return span.Put(d, -9, 0, 5, nil) })
	mustStay(t, d, api.ErrCrash, func() api.Errno { return span.Put(d, -9, 1, 5, nil) })
	mustStay(t, d, api.ErrCrash, func() api.Errno { return span.Put(d, 0, 2, 5, []byte("a")) })
	mustStay(t, d, api.ErrCrash, func() api.Errno { return span.Clear(d, 0) })
	mustStay(t, d, api.ErrCrash, func() api.Errno { return span.Clear(d, 4) })
}

func TestHeadOutsideTheDisk(t *testing.T) {
	for _, n := range []int{0, 1, 5} {
		for _, at := range []int{math.MinInt, math.MinInt32, -100, -2, -1, n, n + 1, math.MaxInt32, math.MaxInt - 1, math.MaxInt} {
			d := lettered(t, n)
			mustStay(t, d, api.ErrFull, func() api.Errno { return span.Clear(d, at) })
			for _, room := range []int{1, 9, math.MaxInt} {
				mustGetNone(t, d, at, room)
			}
			was := all(d)
			// There are no bytes to write, but they are flushed.
			if e := span.Put(d, at, 1, 5, nil); e != api.ErrFull || d.Ops() != 1 || !slices.Equal(all(d), was) {
				t.Errorf("of %d: Put(%d): %d, Ops %d, %q", n, at, e, d.Ops(), all(d))
			}
			if e := span.Put(d, at, 0, 5, nil); e != api.ErrFull || d.Ops() != 1 {
				t.Errorf("of %d: Put(%d) without room: %d, Ops %d", n, at, e, d.Ops())
			}
			mustGetNone(t, d, at, 1)
			if at == -1 {
				continue
			}
			if e := span.Put(d, at, 3, 5, text(32)); e != api.ErrFull || d.Ops() != 1 || !slices.Equal(all(d), was) {
				t.Errorf("of %d: Put(%d) of 32 bytes: %d, Ops %d, %q", n, at, e, d.Ops(), all(d))
			}
		}
	}
}

func TestBytesOutsideTheDisk(t *testing.T) {
	b := text(40)
	for _, at := range []int{5, 6, 7} {
		d := lettered(t, 8)
		was := all(d)
		fit := 7 - at
		if e := span.Put(d, at, math.MaxInt, 5, b); e != api.ErrFull || d.Ops() != fit {
			t.Errorf("Put(%d): %d, Ops %d, want %d", at, e, d.Ops(), fit)
		}
		for i := range fit {
			if got, want := string(d.Read(at+1+i)), string(b[i*16:][:16]); got != want {
				t.Errorf("Put(%d): sector %d is %q, want %q", at, at+1+i, got, want)
			}
		}
		mustGetNone(t, d, at, math.MaxInt)
		// Nothing was flushed, and no head written.
		d.Restart()
		if !slices.Equal(all(d), was) {
			t.Errorf("Put(%d): %q", at, all(d))
		}
	}
	d := lettered(t, 8)
	mustPut(t, d, 4, math.MaxInt, 5, b)
	mustGet(t, d, 4, math.MaxInt, 5, b)
}

func TestTags(t *testing.T) {
	for _, tag := range tags {
		d := lettered(t, 6)
		mustPut(t, d, 1, 3, tag, []byte("some twenty bytes ..."[:20]))
		mustGet(t, d, 1, 3, tag, []byte("some twenty bytes ..."[:20]))
		mustPut(t, d, 4, 1, tag, nil)
		mustGet(t, d, 4, 1, tag, nil)
	}
}

func TestTagNought(t *testing.T) {
	for _, size := range sizes {
		d, b := lettered(t, 20), text(size)
		mustPut(t, d, 1, 20, 8, []byte("what was there"))
		was := d.Ops()
		mustPut(t, d, 1, 20, 0, b)
		if d.Ops() != was+span.Need(size)+2 || !bytes.Equal(d.Read(1), headOf(0, b)) {
			t.Errorf("of %d bytes: %d operations, the head is %x", size, d.Ops()-was, d.Read(1))
		}
		mustGetNone(t, d, 1, 20)
	}
}

func TestHeadTurned(t *testing.T) {
	for _, size := range []int{0, 1, 16, 20} {
		for _, tag := range tags {
			d, b := lettered(t, 4), text(size)
			mustPut(t, d, 0, 4, tag, b)
			for bit := range 8 * api.Sector {
				head := headOf(tag, b)
				head[bit/8] ^= 1 << (bit % 8)
				overwrite(t, d, 0, head)
				mustGetNone(t, d, 0, 4)
			}
			overwrite(t, d, 0, headOf(tag, b))
			mustGet(t, d, 0, 4, tag, b)
		}
	}
}

func TestHeadOfOneTagTwice(t *testing.T) {
	d := lettered(t, 4)
	b := []byte("123456789")
	mustPut(t, d, 0, 4, 5, b)
	for _, c := range []struct {
		first, last uint32
	}{{5, 0}, {0, 5}, {0, 0}, {5, 6}, {6, 5}, {5, 0x05000000}, {0x05000000, 5}, {5, 0x105}} {
		head := headOf(c.first, b)
		copy(head[12:], headOf(c.last, b)[12:])
		overwrite(t, d, 0, head)
		mustGetNone(t, d, 0, 4)
	}
	// Both are turned to one other tag: nothing says that it is not that.
	overwrite(t, d, 0, headOf(6, b))
	mustGet(t, d, 0, 4, 6, b)
}

func TestBytesTurned(t *testing.T) {
	for _, size := range []int{1, 15, 16, 17, 40} {
		d, b := lettered(t, 6), text(size)
		mustPut(t, d, 1, 5, 3, b)
		for bit := range 8 * size {
			i := bit / 8
			place := 2 + i/api.Sector
			was := d.Read(place)
			turned := bytes.Clone(was)
			turned[i%api.Sector] ^= 1 << (bit % 8)
			overwrite(t, d, place, turned)
			mustGetNone(t, d, 1, 5)
			overwrite(t, d, place, was)
			mustGet(t, d, 1, 5, 3, b)
		}
	}
}

func TestBehindTheBytes(t *testing.T) {
	d, b := lettered(t, 6), text(20)
	mustPut(t, d, 1, 5, 3, b)
	// The sum is that of the bytes alone, and they are all that is answered.
	overwrite(t, d, 3, append(bytes.Clone(b[16:]), "anything ...."[:12]...))
	overwrite(t, d, 4, row('!'))
	mustGet(t, d, 1, 5, 3, b)
}

func TestMoreBytesThanThere(t *testing.T) {
	d := disk.New(6)
	for _, size := range []uint32{49, 50, 64, 100, 1 << 16, 1<<31 - 16, 1<<31 - 1, 1 << 31, math.MaxUint32 - 15, math.MaxUint32} {
		overwrite(t, d, 2, rawHead(3, size, sumOf(nil), 3))
		for _, room := range []int{1, 4, 5, api.Sectors, 1 << 28, 1 << 29, math.MaxInt} {
			mustGetNone(t, d, 2, room)
		}
	}
	overwrite(t, d, 2, rawHead(3, 48, sumOf(make([]byte, 48)), 3))
	mustGet(t, d, 2, 4, 3, make([]byte, 48))
	mustGet(t, d, 2, math.MaxInt, 3, make([]byte, 48))
	mustGetNone(t, d, 2, 3)
}

func TestGetOfAnyDisk(t *testing.T) {
	empty := disk.New(0)
	mustGetNone(t, empty, 0, 1)
	fresh := disk.New(9)
	for i := range 9 {
		mustGetNone(t, fresh, i, 9)
	}
	other := lettered(t, 9)
	for i := range 9 {
		mustGetNone(t, other, i, 9)
	}
	var zero disk.Disk
	mustGetNone(t, &zero, 0, 1)
}

func TestClear(t *testing.T) {
	for _, at := range []int{0, 1, 3, 5} {
		d := lettered(t, 6)
		if e := span.Clear(d, at); e != api.OK || d.Ops() != 2 {
			t.Errorf("Clear(%d): %d, Ops %d", at, e, d.Ops())
		}
		d.Restart()
		for i, got := range all(d) {
			want := string(row(letter(i)))
			if i == at {
				want = noughts(api.Sector)
			}
			if got != want {
				t.Errorf("Clear(%d): sector %d is %q", at, i, got)
			}
		}
		mustGetNone(t, d, at, 6)
	}
}

func TestClearOfASpan(t *testing.T) {
	d, b := lettered(t, 6), text(30)
	mustPut(t, d, 1, 3, 4, b)
	was := all(d)
	if e := span.Clear(d, 1); e != api.OK {
		t.Errorf("Clear: %d", e)
	}
	was[1] = noughts(api.Sector)
	if !slices.Equal(all(d), was) {
		t.Errorf("%q, want %q", all(d), was)
	}
	mustGetNone(t, d, 1, 3)
	mustPut(t, d, 1, 3, 4, b)
	mustGet(t, d, 1, 3, 4, b)
}

func TestNilDisk(t *testing.T) {
	var d *disk.Disk
	for _, at := range []int{math.MinInt, -1, 0, 1, math.MaxInt} {
		if e := span.Clear(d, at); e != api.ErrCrash {
			t.Errorf("Clear(%d): %d", at, e)
		}
		for _, room := range []int{math.MinInt, -1, 0, 1, 2, math.MaxInt} {
			mustGetNone(t, d, at, room)
			want := api.ErrCrash
			if room < 1 {
				want = api.ErrFull
			}
			if e := span.Put(d, at, room, 1, nil); e != want {
				t.Errorf("Put(%d, %d): %d, want %d", at, room, e, want)
			}
			if room == 1 {
				want = api.ErrFull
			}
			if e := span.Put(d, at, room, 1, []byte("a")); e != want {
				t.Errorf("Put(%d, %d) of a byte: %d, want %d", at, room, e, want)
			}
		}
	}
}

func TestDownDisk(t *testing.T) {
	d, b := lettered(t, 6), text(20)
	mustPut(t, d, 0, 3, 4, b)
	d.Write(0, row('!'))
	d.Arm(api.Crash{})
	mustGetNone(t, d, 0, 3)
	d.Flush()
	for range 2 {
		// What was flushed is to be had, although it is Down.
		mustGet(t, d, 0, 3, 4, b)
		mustGetNone(t, d, 1, 3)
		mustStay(t, d, api.ErrCrash, func() api.Errno { return span.Put(d, 3, 3, 5, b) })
		mustStay(t, d, api.ErrCrash, func() api.Errno { return span.Put(d, 3, 3, 5, nil) })
		mustStay(t, d, api.ErrCrash, func() api.Errno { return span.Clear(d, 0) })
	}
	d.Restart()
	mustGet(t, d, 0, 3, 4, b)
	mustPut(t, d, 3, 3, 5, b)
	mustGet(t, d, 3, 3, 5, b)
}

func TestSideBySide(t *testing.T) {
	d := lettered(t, 14)
	one, two, three, four := text(16), text(17), []byte(nil), text(60)
	mustPut(t, d, 3, 3, 2, two)
	mustPut(t, d, 7, 5, 4, four)
	mustPut(t, d, 1, 2, 1, one)
	mustPut(t, d, 6, 1, 3, three)
	check := func(room int) {
		t.Helper()
		mustGet(t, d, 1, max(2, room), 1, one)
		mustGet(t, d, 3, max(3, room), 2, two)
		mustGet(t, d, 6, max(1, room), 3, three)
		mustGet(t, d, 7, max(5, room), 4, four)
		for i := range 14 {
			if i != 1 && i != 3 && i != 6 && i != 7 {
				mustGetNone(t, d, i, 14)
			}
		}
		for _, i := range []int{0, 12, 13} {
			if !bytes.Equal(d.Read(i), row(letter(i))) {
				t.Errorf("sector %d is %q", i, d.Read(i))
			}
		}
	}
	check(0)
	check(14)
	if e := span.Clear(d, 3); e != api.OK {
		t.Errorf("Clear: %d", e)
	}
	mustGetNone(t, d, 3, 3)
	mustGet(t, d, 1, 2, 1, one)
	mustGet(t, d, 6, 1, 3, three)
	two = []byte("now it is short"[:15])
	mustPut(t, d, 3, 3, 2, two)
	check(0)
}

func TestOneOverAnother(t *testing.T) {
	for _, was := range sizes {
		for _, is := range sizes {
			d := lettered(t, 20)
			mustPut(t, d, 1, 18, 4, text(was))
			mustPut(t, d, 1, 18, 4, backward(is))
			mustGet(t, d, 1, 18, 4, backward(is))
			mustPut(t, d, 1, 18, 5, text(is))
			mustGet(t, d, 1, 18, 5, text(is))
			// What is behind the span is as it was.
			first := max(span.Need(was), span.Need(is)) + 1
			if got := d.Read(first); !bytes.Equal(got, row(letter(first))) {
				t.Errorf("%d bytes over %d: %q", is, was, got)
			}
		}
	}
}

func TestHandedInIsNotChanged(t *testing.T) {
	for _, size := range sizes {
		whole := append(text(size), bytes.Repeat([]byte{'!'}, 40)...)
		was := bytes.Clone(whole)
		d := lettered(t, 20)
		mustPut(t, d, 0, 20, 7, whole[:size])
		span.Put(d, 0, 0, 8, whole[:size])
		span.Put(d, 18, 20, 8, whole[:size])
		d.Arm(api.Crash{})
		span.Put(d, 0, 20, 8, whole[:size])
		if !bytes.Equal(whole, was) {
			t.Errorf("of %d bytes: %q became %q", size, was, whole)
		}
		mustGet(t, d, 0, 20, 7, was[:size])
	}
}

func TestHandedInIsNotKept(t *testing.T) {
	for _, size := range sizes {
		d, b := lettered(t, 20), text(size)
		mustPut(t, d, 0, 20, 7, b)
		for i := range b {
			b[i] = '!'
		}
		mustGet(t, d, 0, 20, 7, text(size))
		d.Restart()
		mustGet(t, d, 0, 20, 7, text(size))
	}
}

func TestAnswersAreNewMemory(t *testing.T) {
	for _, size := range sizes {
		d := lettered(t, 20)
		mustPut(t, d, 0, 20, 7, text(size))
		was := all(d)
		_, one, _ := span.Get(d, 0, 20)
		_, other, _ := span.Get(d, 0, 20)
		spare := one[:cap(one)]
		for i := range spare {
			spare[i] = '!'
		}
		if !bytes.Equal(other, text(size)) || !slices.Equal(all(d), was) {
			t.Errorf("of %d bytes: %q, %q", size, other, all(d))
		}
		mustGet(t, d, 0, 20, 7, text(size))
		// An answer stays what it is.
		mustPut(t, d, 0, 20, 8, bytes.Repeat([]byte{'?'}, size))
		span.Clear(d, 0)
		if !bytes.Equal(other, text(size)) {
			t.Errorf("of %d bytes: it became %q", size, other)
		}
	}
}

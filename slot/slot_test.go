package slot_test

import (
	"bytes"
	"math"
	"slices"
	"testing"

	"lazarus/api"
	"lazarus/disk"
	"lazarus/slot"
	"lazarus/span"
)

// noGens are numbers that no generation has.
var noGens = []int{0, -1, -2, math.MinInt32, math.MinInt, 1 << 31, 1<<31 + 1, 1<<32 - 1, 1 << 32, 1<<32 + 1, 1<<33 + 2, math.MaxInt}

// row is a sector of one letter.
func row(c byte) []byte { return bytes.Repeat([]byte{c}, api.Sector) }

// letter is what stands on a sector of a lettered disk.
func letter(i int) byte { return byte('a' + i%26) }

// text is so many bytes without a plain pattern, none of them 0.
func text(size int) []byte {
	b := make([]byte, size)
	for i, x := 0, uint32(7); i < size; i++ {
		x = x*1664525 + 1013904223
		b[i] = byte(x>>24) | 1
	}
	return b
}

// lettered is a disk with a letter on each sector, flushed, and no operation yet.
func lettered(t *testing.T, n int) *disk.Disk {
	t.Helper()
	d := disk.New(n)
	for i := range n {
		if e := d.Write(i, row(letter(i))); e != api.OK {
			t.Fatalf("Write(%d): %d", i, e)
		}
	}
	if e := d.Flush(); e != api.OK {
		t.Fatalf("Flush: %d", e)
	}
	d.Restart()
	return d
}

// all is each sector of a disk.
func all(d *disk.Disk) []string {
	var l []string
	for i := range d.Size() {
		l = append(l, string(d.Read(i)))
	}
	return l
}

// mustSave saves.
func mustSave(t *testing.T, d *disk.Disk, gen int, b []byte) {
	t.Helper()
	if e := slot.Save(d, gen, b); e != api.OK {
		t.Fatalf("Save(%d, %d bytes): %d", gen, len(b), e)
	}
}

// mustLoad says what was saved last.
func mustLoad(t *testing.T, d *disk.Disk, gen int, b []byte) {
	t.Helper()
	got, saved, ok := slot.Load(d)
	if !ok || got != gen || !bytes.Equal(saved, b) {
		t.Errorf("Load = %d, %q, %v; want %d, %q", got, saved, ok, gen, b)
	}
}

// mustLoadNone says that nothing was saved.
func mustLoadNone(t *testing.T, d *disk.Disk) {
	t.Helper()
	if gen, b, ok := slot.Load(d); gen != 0 || len(b) != 0 || ok {
		t.Errorf("Load = %d, %q, %v", gen, b, ok)
	}
}

// mustPut puts a span.
func mustPut(t *testing.T, d *disk.Disk, at, room int, tag uint32, b []byte) {
	t.Helper()
	if e := span.Put(d, at, room, tag, b); e != api.OK {
		t.Fatalf("Put(%d, %d, %d, %d bytes): %d", at, room, tag, len(b), e)
	}
}

// mustStay says that Save answers an error, and changes nothing.
func mustStay(t *testing.T, d *disk.Disk, want api.Errno, gen int, b []byte) {
	t.Helper()
	sectors, ops, down := all(d), d.Ops(), d.Down()
	if e := slot.Save(d, gen, b); e != want {
		t.Errorf("Save(%d, %d bytes): %d, want %d", gen, len(b), e, want)
	}
	if !slices.Equal(all(d), sectors) || d.Ops() != ops || d.Down() != down {
		t.Errorf("it changed: Ops %d to %d, Down %v to %v, %q to %q", ops, d.Ops(), down, d.Down(), sectors, all(d))
	}
}

func TestExample(t *testing.T) {
	d := disk.New(8)
	mustSave(t, d, 1, []byte("one"))
	mustSave(t, d, 2, []byte("two"))
	mustLoad(t, d, 2, []byte("two"))
	d.Restart()
	mustLoad(t, d, 2, []byte("two"))
}

func TestRoom(t *testing.T) {
	for n := range api.Sectors + 1 {
		want := 0
		for 8*(want+1) <= 3*n {
			want++
		}
		if got := slot.Room(disk.New(n)); got != want {
			t.Errorf("Room of %d sectors = %d, want %d", n, got, want)
		}
	}
	var zero disk.Disk
	if slot.Room(nil) != 0 || slot.Room(&zero) != 0 || slot.Room(disk.New(-1)) != 0 {
		t.Errorf("%d, %d, %d", slot.Room(nil), slot.Room(&zero), slot.Room(disk.New(-1)))
	}
	down := disk.New(16)
	down.Arm(api.Crash{})
	down.Flush()
	if got := slot.Room(down); got != 6 || down.Ops() != 0 {
		t.Errorf("Room of one that is down = %d, Ops %d", got, down.Ops())
	}
}

func TestGenerations(t *testing.T) {
	for _, gen := range []int{1, 2, 3, 4, 255, 256, 257, 65535, 65536, 65537, 1 << 24, 1<<24 + 1, 0x01020304, 1 << 30, 1<<31 - 2, 1<<31 - 1} {
		d, b := lettered(t, 17), text(40)
		mustSave(t, d, gen, b)
		mustLoad(t, d, gen, b)
		d.Restart()
		mustLoad(t, d, gen, b)
		for i := range 17 {
			want := uint32(0)
			if i == gen%2*6 {
				want = uint32(gen)
			}
			if tag, _, _ := span.Get(d, i, 6); tag != want {
				t.Errorf("generation %d: at %d stands %d", gen, i, tag)
			}
		}
	}
}

func TestNoGenerations(t *testing.T) {
	for _, gen := range noGens {
		d := lettered(t, 17)
		mustSave(t, d, 1, []byte("one"))
		mustSave(t, d, 2, []byte("two"))
		d.Write(16, row('!'))
		mustStay(t, d, api.ErrArg, gen, []byte("three"))
		mustStay(t, d, api.ErrArg, gen, nil)
		// Both are wrong: what is named first counts.
		mustStay(t, d, api.ErrArg, gen, make([]byte, 81))
		mustLoad(t, d, 2, []byte("two"))
		// It is no operation: the disk does not crash there.
		d.Arm(api.Crash{})
		mustStay(t, d, api.ErrArg, gen, []byte("three"))
		if e := d.Flush(); e != api.ErrCrash {
			t.Errorf("Save(%d): what was armed is not", gen)
		}
		mustStay(t, d, api.ErrArg, gen, nil)
		mustStay(t, nil, api.ErrArg, gen, nil)
		// What was pending was so still.
		if got := d.Read(16); !bytes.Equal(got, row(letter(16))) {
			t.Errorf("Save(%d): it was flushed: %q", gen, got)
		}
		mustLoad(t, d, 2, []byte("two"))
	}
}

func TestJustRoom(t *testing.T) {
	for n := range 60 {
		room := n * 3 / 8
		for _, gen := range []int{1, 2} {
			for _, size := range []int{0, 1, 15, 16, 17, 16*room - 17, 16*room - 16, 16*room - 15, 16 * room, 16*room + 1, 1 << 16} {
				if size < 0 {
					continue
				}
				d, b := lettered(t, n), text(size)
				if 1+(size+15)/16 > room {
					d.Write(n-1, row('!'))
					mustStay(t, d, api.ErrFull, gen, b)
					mustLoadNone(t, d)
					d.Restart()
					if n > 0 && !bytes.Equal(d.Read(n-1), row(letter(n-1))) {
						t.Errorf("of %d sectors: it was flushed", n)
					}
					continue
				}
				mustSave(t, d, gen, b)
				mustLoad(t, d, gen, b)
				d.Restart()
				mustLoad(t, d, gen, b)
			}
		}
	}
}

func TestFullIsNoOperation(t *testing.T) {
	for _, gen := range []int{1, 2, 3, 4, 1<<31 - 1} {
		d := lettered(t, 16)
		mustSave(t, d, 1, []byte("one"))
		mustSave(t, d, 2, []byte("two"))
		d.Restart()
		d.Arm(api.Crash{})
		mustStay(t, d, api.ErrFull, gen, make([]byte, 81))
		mustLoad(t, d, 2, []byte("two"))
		if e := slot.Save(d, gen, make([]byte, 80)); e != api.ErrCrash || !d.Down() {
			t.Errorf("%d, Down %v", e, d.Down())
		}
		// Both are wrong: what is named first counts.
		mustStay(t, d, api.ErrFull, gen, make([]byte, 81))
		mustStay(t, d, api.ErrCrash, gen, make([]byte, 80))
	}
}

func TestNoRoom(t *testing.T) {
	for n := range 3 {
		d := lettered(t, n)
		mustLoadNone(t, d)
		for _, gen := range []int{1, 2, 1<<31 - 1} {
			mustStay(t, d, api.ErrFull, gen, nil)
			mustStay(t, d, api.ErrFull, gen, []byte("a"))
		}
		mustStay(t, d, api.ErrArg, 0, nil)
		if n == 0 {
			continue
		}
		// There is a span, but it is in no slot.
		mustPut(t, d, 0, n, 5, nil)
		mustLoadNone(t, d)
	}
	d := lettered(t, 3)
	mustSave(t, d, 1, nil)
	mustSave(t, d, 2, nil)
	mustLoad(t, d, 2, nil)
	mustStay(t, d, api.ErrFull, 3, []byte("a"))
	mustLoad(t, d, 2, nil)
}

func TestNilDisk(t *testing.T) {
	var zero disk.Disk
	for _, d := range []*disk.Disk{nil, &zero} {
		mustLoadNone(t, d)
		mustStay(t, d, api.ErrFull, 1, nil)
		mustStay(t, d, api.ErrFull, 2, text(40))
		mustStay(t, d, api.ErrFull, 1<<31-1, nil)
		mustStay(t, d, api.ErrArg, 0, nil)
		mustStay(t, d, api.ErrArg, 1<<31, text(40))
	}
}

func TestDownDisk(t *testing.T) {
	d, b := lettered(t, 17), text(80)
	mustSave(t, d, 1, b)
	mustSave(t, d, 2, []byte("two"))
	d.Write(0, row('!'))
	d.Arm(api.Crash{})
	d.Flush()
	for range 2 {
		// What was flushed is to be had, although it is Down.
		mustLoad(t, d, 2, []byte("two"))
		mustStay(t, d, api.ErrCrash, 3, b)
		mustStay(t, d, api.ErrCrash, 4, nil)
		mustStay(t, d, api.ErrFull, 3, make([]byte, 81))
		mustStay(t, d, api.ErrArg, 0, make([]byte, 81))
		mustStay(t, d, api.ErrArg, 1<<31, nil)
	}
	d.Restart()
	mustLoad(t, d, 2, []byte("two"))
	mustSave(t, d, 3, b)
	mustLoad(t, d, 3, b)
}

func TestLoadOfNothing(t *testing.T) {
	for _, n := range []int{0, 1, 2, 3, 8, 17, api.Sectors} {
		mustLoadNone(t, disk.New(n))
		mustLoadNone(t, lettered(t, n))
	}
	d := disk.New(17)
	was := all(d)
	mustLoadNone(t, d)
	if d.Ops() != 0 || !slices.Equal(all(d), was) {
		t.Errorf("Ops %d, %q", d.Ops(), all(d))
	}
}

func TestLoadOfOneSlot(t *testing.T) {
	for _, gen := range []int{1, 2, 7, 8, 1<<31 - 2, 1<<31 - 1} {
		for _, b := range [][]byte{nil, []byte("a"), text(80)} {
			d := lettered(t, 17)
			mustSave(t, d, gen, b)
			mustLoad(t, d, gen, b)
			span.Clear(d, (gen+1)%2*6)
			mustLoad(t, d, gen, b)
			span.Clear(d, gen%2*6)
			mustLoadNone(t, d)
		}
	}
}

func TestLoadOfBoth(t *testing.T) {
	for _, c := range [][2]int{{1, 2}, {2, 3}, {1, 1<<31 - 2}, {2, 1<<31 - 1}, {255, 256}, {256, 257}, {1, 256}, {1 << 24, 1<<24 + 1}, {3, 1 << 24}, {0x01020304, 0x04030201}} {
		low, high := []byte("low"), []byte("the high one")
		for range 2 {
			d := disk.New(17)
			mustSave(t, d, c[0], low)
			mustSave(t, d, c[1], high)
			mustLoad(t, d, c[1], high)
			// Which one was saved last does not matter, where it is not the greater one.
			mustSave(t, d, c[0], []byte("low, again"))
			mustLoad(t, d, c[1], high)
			span.Clear(d, c[1]%2*6)
			mustLoad(t, d, c[0], []byte("low, again"))
			low, high = high, low
		}
	}
}

func TestLoadOfAnyTags(t *testing.T) {
	// What is put by itself may have any tag, in any slot.
	tags := []uint32{0, 1, 2, 5, 6, 256, 1<<31 - 2, 1<<31 - 1, 1 << 31, 1<<31 + 1, 1<<31 + 6, math.MaxUint32 - 1, math.MaxUint32}
	zero, one := []byte("slot 0"), []byte("this is slot 1")
	for _, first := range tags {
		for _, second := range tags {
			d := disk.New(17)
			mustPut(t, d, 0, 6, first, zero)
			mustPut(t, d, 6, 6, second, one)
			isFirst, isSecond := first > 0 && first < 1<<31, second > 0 && second < 1<<31
			switch {
			case isFirst && (!isSecond || first >= second):
				mustLoad(t, d, int(first), zero)
			case isSecond:
				mustLoad(t, d, int(second), one)
			default:
				mustLoadNone(t, d)
			}
		}
	}
}

func TestLoadOfSpansBeyondRoom(t *testing.T) {
	for at := range 2 {
		d := disk.New(17)
		mustSave(t, d, 1, []byte("one"))
		mustSave(t, d, 2, []byte("two"))
		mustPut(t, d, 6*at, 9, 8, text(81))
		if at == 0 {
			// It has gone over the other slot's head.
			mustLoadNone(t, d)
		} else {
			mustLoad(t, d, 2, []byte("two"))
		}
		d = disk.New(17)
		mustPut(t, d, 6*at, 6, 8, text(80))
		mustLoad(t, d, 8, text(80))
	}
	for _, at := range []int{1, 2, 3, 5, 7, 11, 12, 14} {
		d := disk.New(17)
		mustPut(t, d, at, 3, 8, text(20))
		mustLoadNone(t, d)
	}
}

func TestLoadOfWhatWasTurned(t *testing.T) {
	for _, gen := range []int{1, 2} {
		d, b := disk.New(17), text(20)
		mustSave(t, d, 3-gen, []byte("the other"))
		mustSave(t, d, gen, b)
		at := gen % 2 * 6
		for i := range 2 * api.Sector {
			was := d.Read(at + i/api.Sector)
			turned := bytes.Clone(was)
			turned[i%api.Sector] ^= 1
			d.Write(at+i/api.Sector, turned)
			mustLoad(t, d, 3-gen, []byte("the other"))
			d.Write(at+i/api.Sector, was)
		}
		mustLoad(t, d, 2, map[int][]byte{1: []byte("the other"), 2: b}[gen])
	}
}

func TestOneGenerationTwice(t *testing.T) {
	for _, c := range []struct{ gen, other int }{{1, 2}, {2, 1}, {7, 8}, {8, 7}, {1<<31 - 1, 1<<31 - 2}} {
		d := lettered(t, 17)
		for _, size := range []int{0, 40, 3, 80, 0, 80, 80} {
			mustSave(t, d, c.gen, text(size))
			mustLoad(t, d, c.gen, text(size))
			mustSave(t, d, c.gen, bytes.Repeat([]byte("x"), size))
			mustLoad(t, d, c.gen, bytes.Repeat([]byte("x"), size))
		}
		mustSave(t, d, c.other, []byte("the other"))
		mustSave(t, d, c.gen, []byte("again"))
		mustSave(t, d, c.gen, []byte("and again"))
		if c.gen > c.other {
			mustLoad(t, d, c.gen, []byte("and again"))
		} else {
			mustLoad(t, d, c.other, []byte("the other"))
		}
	}
}

func TestGenerationsRise(t *testing.T) {
	for _, first := range []int{1, 2, 250, 65530, 1<<31 - 21} {
		d := lettered(t, 17)
		for gen := first; gen < first+21; gen++ {
			b := text((gen * 13) % 81)
			mustSave(t, d, gen, b)
			mustLoad(t, d, gen, b)
			d.Restart()
			mustLoad(t, d, gen, b)
		}
	}
}

func TestOtherSectorsStay(t *testing.T) {
	for _, n := range []int{3, 8, 16, 17, 23, 24} {
		room := n * 3 / 8
		d := lettered(t, n)
		was := all(d)
		mustSave(t, d, 1, text(16*(room-1)))
		if now := all(d); !slices.Equal(now[:room], was[:room]) || !slices.Equal(now[2*room:], was[2*room:]) {
			t.Errorf("of %d: %q", n, now)
		}
		was = all(d)
		mustSave(t, d, 2, text(16*(room-1)))
		if now := all(d); !slices.Equal(now[room:], was[room:]) {
			t.Errorf("of %d: %q", n, now)
		}
		was = all(d)
		mustSave(t, d, 4, nil)
		if now := all(d); !slices.Equal(now[1:], was[1:]) {
			t.Errorf("of %d: %q", n, now)
		}
	}
}

func TestTheWholeDisk(t *testing.T) {
	d := disk.New(api.Sectors)
	b := text(1499 * api.Sector)
	mustStay(t, d, api.ErrFull, 1, append(slices.Clip(b), 1))
	mustSave(t, d, 1, b)
	mustLoad(t, d, 1, b)
	slices.Reverse(b)
	mustSave(t, d, 2, b)
	mustLoad(t, d, 2, b)
	d.Restart()
	mustLoad(t, d, 2, b)
	span.Clear(d, 0)
	slices.Reverse(b)
	mustLoad(t, d, 1, b)
}

func TestHandedInIsNotChanged(t *testing.T) {
	for _, size := range []int{0, 1, 16, 17, 80} {
		whole := append(text(size), bytes.Repeat([]byte{'!'}, 60)...)
		was := bytes.Clone(whole)
		d := disk.New(17)
		mustSave(t, d, 1, whole[:size])
		mustSave(t, d, 2, whole[:size])
		slot.Save(d, 0, whole[:size])
		slot.Save(d, 1, whole[:size+60])
		slot.Save(nil, 1, whole[:size])
		d.Arm(api.Crash{At: d.Ops() + 3})
		slot.Save(d, 3, whole[:size])
		if !bytes.Equal(whole, was) {
			t.Errorf("of %d bytes: %q became %q", size, was, whole)
		}
		mustLoad(t, d, 2, was[:size])
	}
}

func TestHandedInIsNotKept(t *testing.T) {
	for _, size := range []int{0, 1, 16, 17, 80} {
		d, b := disk.New(17), text(size)
		mustSave(t, d, 1, b)
		for i := range b {
			b[i] = '!'
		}
		mustLoad(t, d, 1, text(size))
		d.Restart()
		mustLoad(t, d, 1, text(size))
	}
}

func TestAnswersAreNewMemory(t *testing.T) {
	for _, size := range []int{0, 1, 16, 17, 80} {
		d, b := disk.New(17), text(size)
		mustSave(t, d, 1, b)
		was := all(d)
		_, one, _ := slot.Load(d)
		_, other, _ := slot.Load(d)
		spare := one[:cap(one)]
		for i := range spare {
			spare[i] = '!'
		}
		if !bytes.Equal(other, text(size)) || !bytes.Equal(b, text(size)) || !slices.Equal(all(d), was) {
			t.Errorf("of %d bytes: %q, %q, %q", size, other, b, all(d))
		}
		mustLoad(t, d, 1, text(size))
		// An answer stays what it is.
		mustSave(t, d, 1, bytes.Repeat([]byte{'?'}, size))
		mustSave(t, d, 2, nil)
		if !bytes.Equal(other, text(size)) {
			t.Errorf("of %d bytes: it became %q", size, other)
		}
	}
}

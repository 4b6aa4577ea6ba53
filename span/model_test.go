package span_test

import (
	"bytes"
	"encoding/binary"
	"hash/crc32"
	"slices"
	"testing"

	"lazarus/api"
	"lazarus/disk"
	"lazarus/span"
)

// castagnoli is the table of the sum as the library of Go works it out.
var castagnoli = crc32.MakeTable(crc32.Castagnoli)

// sumOf is the sum of bytes.
func sumOf(b []byte) uint32 { return crc32.Checksum(b, castagnoli) }

// rawHead is a head of any numbers.
func rawHead(first, size, sum, last uint32) []byte {
	var b []byte
	for _, n := range []uint32{first, size, sum, last} {
		b = binary.BigEndian.AppendUint32(b, n)
	}
	return b
}

// headOf is the head of a span.
func headOf(tag uint32, b []byte) []byte { return rawHead(tag, uint32(len(b)), sumOf(b), tag) }

// does is one operation of a disk: a Write, or a Flush if it has no row.
type does struct {
	at  int
	row []byte
}

// plan is all operations of a Put, told as plainly as can be.
func plan(at int, tag uint32, b []byte) []does {
	var l []does
	filled := append(bytes.Clone(b), make([]byte, api.Sector)...)
	for i := 0; i*api.Sector < len(b); i++ {
		l = append(l, does{at + 1 + i, filled[i*api.Sector:][:api.Sector]})
	}
	return append(l, does{}, does{at, headOf(tag, b)}, does{})
}

// perform does operations up to the first error.
func perform(d *disk.Disk, l []does) api.Errno {
	for _, o := range l {
		e := api.OK
		if o.row == nil {
			e = d.Flush()
		} else {
			e = d.Write(o.at, o.row)
		}
		if e != api.OK {
			return e
		}
	}
	return api.OK
}

// modelPut puts a span.
func modelPut(d *disk.Disk, at, room int, tag uint32, b []byte) api.Errno {
	l := plan(at, tag, b)
	// All operations but both Flushes write a sector of the span.
	if len(l)-2 > room {
		return api.ErrFull
	}
	return perform(d, l)
}

// modelGet is the span at a sector.
func modelGet(d *disk.Disk, at, room int) (uint32, []byte, bool) {
	if at < 0 || at >= d.Size() {
		return 0, nil, false
	}
	var behind []byte
	for i := 1; i < room && at+i < d.Size(); i++ {
		behind = append(behind, d.Read(at+i)...)
	}
	head := d.Read(at)
	tag, size := binary.BigEndian.Uint32(head), int64(binary.BigEndian.Uint32(head[4:]))
	if tag == 0 || room < 1 || size > int64(len(behind)) || !bytes.Equal(head, headOf(tag, behind[:size])) {
		return 0, nil, false
	}
	return tag, behind[:size], true
}

// sameDisks holds one disk against the other.
func sameDisks(t *testing.T, got, want *disk.Disk) {
	t.Helper()
	if got.Ops() != want.Ops() || got.Down() != want.Down() || !slices.Equal(all(got), all(want)) {
		t.Fatalf("Ops %d, want %d; Down %v, want %v; %q, want %q", got.Ops(), want.Ops(), got.Down(), want.Down(), all(got), all(want))
	}
}

// sameGet holds Get against the model, at each sector.
func sameGet(t *testing.T, d *disk.Disk, room int) {
	t.Helper()
	for at := -1; at <= d.Size(); at++ {
		tag, b, ok := span.Get(d, at, room)
		wantTag, want, wantOK := modelGet(d, at, room)
		if tag != wantTag || !bytes.Equal(b, want) || ok != wantOK {
			t.Fatalf("Get(%d, %d) = %d, %q, %v; want %d, %q, %v", at, room, tag, b, ok, wantTag, want, wantOK)
		}
	}
}

// left is so many bytes of each of so many writes.
func left(writes, keep int) []api.Choice {
	return slices.Repeat([]api.Choice{{Keep: keep}}, writes)
}

// crashed is what is there behind a crash at an operation of a Put over another span.
func crashed(t *testing.T, c api.Crash, old, tag uint32, was, is []byte) (*disk.Disk, api.Errno) {
	t.Helper()
	d, other := disk.New(8), disk.New(8)
	mustPut(t, d, 1, 6, old, was)
	mustPut(t, other, 1, 6, old, was)
	for _, x := range []*disk.Disk{d, other} {
		x.Restart()
		x.Arm(c)
	}
	e := span.Put(d, 1, 6, tag, is)
	if want := modelPut(other, 1, 6, tag, is); e != want {
		t.Fatalf("crash at %d: %d, want %d", c.At, e, want)
	}
	sameDisks(t, d, other)
	return d, e
}

func TestCrashWithinPut(t *testing.T) {
	was := []byte("what was there, ahead of that crash")
	for _, is := range [][]byte{nil, []byte("a"), text(16), text(17), text(40), was, make([]byte, 33)} {
		ops := len(plan(1, 5, is))
		for _, old := range []uint32{4, 1, 0x105, 0x01000005, 0x04000005, 0x05000000, 0xfffffffb, 0xffffffff} {
			for at := range ops + 1 {
				for keep := range api.Sector + 1 {
					d, e := crashed(t, api.Crash{At: at, Left: left(8, keep)}, old, 5, was, is)
					if (e == api.OK) != (at >= ops) {
						t.Errorf("crash at %d of %d: %d", at, ops, e)
					}
					onlyWhole(t, d, 5, is, at == ops)
					d.Restart()
					onlyWhole(t, d, 5, is, at == ops)
				}
			}
		}
	}
}

// onlyWhole says that what is there of a tag is just that span; at the end it is to be there.
func onlyWhole(t *testing.T, d *disk.Disk, tag uint32, is []byte, there bool) {
	t.Helper()
	got, b, ok := span.Get(d, 1, 6)
	if ok != (got > 0) || got == tag && !bytes.Equal(b, is) || got != tag && there {
		t.Errorf("%d, %q, %v; want %q or none", got, b, ok, is)
	}
}

func TestCrashAheadOfTheHead(t *testing.T) {
	was, is := text(40), bytes.Repeat([]byte("is"), 20)
	for at := range 4 {
		d, _ := crashed(t, api.Crash{At: at}, 4, 5, was, is)
		mustGet(t, d, 1, 6, 4, was)
		d, _ = crashed(t, api.Crash{At: at, Left: left(3, api.Sector)}, 4, 5, was, is)
		if tag, _, _ := span.Get(d, 1, 6); tag == 5 {
			t.Errorf("crash at %d: the head is there", at)
		}
	}
}

func TestCrashWithinTheHead(t *testing.T) {
	was, is := text(40), bytes.Repeat([]byte("is"), 20)
	for keep := range api.Sector + 1 {
		d, e := crashed(t, api.Crash{At: 5, Left: left(1, keep)}, 4, 5, was, is)
		if e != api.ErrCrash {
			t.Errorf("%d bytes of the head: %d", keep, e)
		}
		if keep < api.Sector {
			mustGetNone(t, d, 1, 6)
		} else {
			mustGet(t, d, 1, 6, 5, is)
		}
	}
}

func TestCrashLeavesOneWriteOnly(t *testing.T) {
	is := text(40)
	for at := range 7 {
		for one := range 4 {
			for keep := range api.Sector + 1 {
				l := left(4, 0)
				l[one].Keep = keep
				d, _ := crashed(t, api.Crash{At: at, Left: l}, 4, 5, []byte("ahead"), is)
				onlyWhole(t, d, 5, is, at == 6)
			}
		}
	}
}

func TestPutBehindACrash(t *testing.T) {
	is := text(40)
	for at := range 6 {
		for keep := range api.Sector + 1 {
			d, _ := crashed(t, api.Crash{At: at, Left: left(8, keep)}, 4, 5, text(60), is)
			d.Restart()
			mustPut(t, d, 1, 6, 6, is)
			mustGet(t, d, 1, 6, 6, is)
		}
	}
}

func TestCrashWithinClear(t *testing.T) {
	for at := range 3 {
		for keep := range api.Sector + 1 {
			d, b := disk.New(4), text(20)
			mustPut(t, d, 0, 3, 0x01020304, b)
			d.Restart()
			d.Arm(api.Crash{At: at, Left: left(1, keep)})
			e := span.Clear(d, 0)
			if (e == api.OK) != (at == 2) || e != api.OK && e != api.ErrCrash {
				t.Errorf("crash at %d: %d", at, e)
			}
			if at == 0 || at == 1 && keep == 0 {
				mustGet(t, d, 0, 3, 0x01020304, b)
			} else {
				mustGetNone(t, d, 0, 3)
			}
		}
	}
}

func TestPutFlushesWhatWasPending(t *testing.T) {
	for _, do := range []func(d *disk.Disk) api.Errno{
		func(d *disk.Disk) api.Errno { return span.Put(d, 0, 2, 5, []byte("a")) },
		func(d *disk.Disk) api.Errno { return span.Put(d, 0, 1, 5, nil) },
		func(d *disk.Disk) api.Errno { return span.Clear(d, 0) },
	} {
		d := lettered(t, 4)
		d.Write(3, row('!'))
		if e := do(d); e != api.OK {
			t.Errorf("%d", e)
		}
		d.Restart()
		if !bytes.Equal(d.Read(3), row('!')) {
			t.Errorf("%q", d.Read(3))
		}
	}
}

// against does with a disk and with the model what the bytes say, and holds one against the other.
func against(t *testing.T, do []byte) {
	d, m := disk.New(9), disk.New(9)
	next := func() int {
		if len(do) == 0 {
			return 0
		}
		b := do[0]
		do = do[1:]
		return int(b)
	}
	for len(do) > 0 {
		got, want := api.OK, api.OK
		at, room := next()%12-2, next()%9-1
		switch what := next() % 16; {
		case what < 8:
			tag, b := uint32(next()%4)<<(next()%4*8), bytes.Repeat([]byte{byte(next())}, next()%100)
			got, want = span.Put(d, at, room, tag, b), modelPut(m, at, room, tag, b)
		case what < 10:
			got, want = span.Clear(d, at), perform(m, []does{{at, make([]byte, api.Sector)}, {}})
		case what < 12:
			head := rawHead(uint32(next()%3), uint32(next()%80), uint32(next()%2), uint32(next()%3))
			got, want = d.Write(at, head), m.Write(at, head)
		case what < 14:
			c := api.Crash{At: d.Ops() + next()%10, Left: left(next()%6, next()%18)}
			d.Arm(c)
			m.Arm(c)
		default:
			d.Restart()
			m.Restart()
		}
		if got != want {
			t.Fatalf("%d, want %d", got, want)
		}
		sameDisks(t, d, m)
		sameGet(t, d, room)
	}
}

func TestAgainstModel(t *testing.T) {
	for seed := range uint32(300) {
		b := make([]byte, 600)
		x := seed
		for i := range b {
			x = x*1664525 + 1013904223
			b[i] = byte(x >> 24)
		}
		against(t, b)
	}
}

func FuzzAgainstModel(f *testing.F) {
	for seed := range 8 {
		f.Add(bytes.Repeat(text(40+seed), 4))
	}
	f.Fuzz(against)
}

func FuzzGet(f *testing.F) {
	f.Add(append(headOf(5, text(20)), text(40)...), 9)
	f.Add(append(headOf(5, nil), headOf(6, text(1))...), 1)
	f.Add(rawHead(3, 0xffffffff, 0, 3), 1<<40)
	f.Fuzz(func(t *testing.T, b []byte, room int) {
		n := min(len(b)/api.Sector, 100)
		d := disk.New(n)
		for i := range n {
			d.Write(i, b[i*api.Sector:][:api.Sector])
		}
		sameGet(t, d, room)
		d.Restart()
		sameGet(t, d, room)
	})
}

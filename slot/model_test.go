package slot_test

import (
	"bytes"
	"encoding/binary"
	"hash/crc32"
	"math"
	"slices"
	"testing"

	"lazarus/api"
	"lazarus/disk"
	"lazarus/slot"
)

// castagnoli is the table of the sum as the library of Go works it out.
var castagnoli = crc32.MakeTable(crc32.Castagnoli)

// headOf is the head of what is saved.
func headOf(gen uint32, b []byte) []byte {
	var head []byte
	for _, n := range []uint32{gen, uint32(len(b)), crc32.Checksum(b, castagnoli), gen} {
		head = binary.BigEndian.AppendUint32(head, n)
	}
	return head
}

// does is one operation of a disk: a Write, or a Flush if it has no row.
type does struct {
	at  int
	row []byte
}

// plan is all operations of a Save, told as plainly as can be.
func plan(n, gen int, b []byte) []does {
	at := gen % 2 * (3 * n / 8)
	l := []does{{at, make([]byte, api.Sector)}, {}}
	filled := append(bytes.Clone(b), make([]byte, api.Sector)...)
	for i := 0; i*api.Sector < len(b); i++ {
		l = append(l, does{at + 1 + i, filled[i*api.Sector:][:api.Sector]})
	}
	return append(l, does{}, does{at, headOf(uint32(gen), b)}, does{})
}

// perform does operations up to the first error.
func perform(d *disk.Disk, l []does) api.Errno {
	for _, o := range l {
		e := api.OK
		if o.row == nil {
			e = d.Flush()
		} else {
			e = d.Write(o.at, o.row)
		}
		if e != api.OK {
			return e
		}
	}
	return api.OK
}

// modelSave saves.
func modelSave(d *disk.Disk, gen int, b []byte) api.Errno {
	if gen < 1 || gen >= 1<<31 {
		return api.ErrArg
	}
	l := plan(d.Size(), gen, b)
	// All operations but Clear's two and Put's two Flushes write a sector of the span.
	if len(l)-4 > 3*d.Size()/8 {
		return api.ErrFull
	}
	return perform(d, l)
}

// modelSlot is what a slot has; 0, if there is nothing.
func modelSlot(d *disk.Disk, i int) (int, []byte) {
	room := 3 * d.Size() / 8
	if room == 0 {
		return 0, nil
	}
	head := d.Read(i * room)
	var behind []byte
	for k := 1; k < room; k++ {
		behind = append(behind, d.Read(i*room+k)...)
	}
	gen, size := binary.BigEndian.Uint32(head), int(binary.BigEndian.Uint32(head[4:]))
	if gen == 0 || gen > math.MaxInt32 || size > len(behind) || !bytes.Equal(head, headOf(gen, behind[:size])) {
		return 0, nil
	}
	return int(gen), behind[:size]
}

// modelLoad is what was saved last.
func modelLoad(d *disk.Disk) (int, []byte, bool) {
	zero, b := modelSlot(d, 0)
	one, other := modelSlot(d, 1)
	if one > zero {
		return one, other, true
	}
	return zero, b, zero > 0
}

// sameLoad holds Load against the model.
func sameLoad(t *testing.T, d *disk.Disk) {
	t.Helper()
	gen, b, ok := slot.Load(d)
	wantGen, want, wantOK := modelLoad(d)
	if gen != wantGen || !bytes.Equal(b, want) || ok != wantOK {
		t.Fatalf("Load = %d, %q, %v; want %d, %q, %v", gen, b, ok, wantGen, want, wantOK)
	}
}

// sameDisks holds one disk against the other.
func sameDisks(t *testing.T, got, want *disk.Disk) {
	t.Helper()
	if got.Ops() != want.Ops() || got.Down() != want.Down() || !slices.Equal(all(got), all(want)) {
		t.Fatalf("Ops %d, want %d; Down %v, want %v; %q, want %q", got.Ops(), want.Ops(), got.Down(), want.Down(), all(got), all(want))
	}
}

// left is so many bytes of each of so many writes.
func left(writes, keep int) []api.Choice {
	return slices.Repeat([]api.Choice{{Keep: keep}}, writes)
}

// bytesOf is what a generation saves in these tests; no two generations save the same.
func bytesOf(gen, size int) []byte {
	b := text(size)
	for i := range b {
		b[i] ^= byte(gen)
	}
	return b
}

// mustBeEither says that what is loaded is a save that was well, or the one after it.
func mustBeEither(t *testing.T, d *disk.Disk, gen int, is, next []byte) int {
	t.Helper()
	got, b, ok := slot.Load(d)
	want := map[int][]byte{gen: is, gen + 1: next}[got]
	if got != gen && got != gen+1 || !bytes.Equal(b, want) || ok != (got > 0) {
		t.Fatalf("Load = %d, %q, %v; want %d, %q, or %q", got, b, ok, gen, is, next)
	}
	return got
}

func TestCrashWithinSave(t *testing.T) {
	for _, gen := range []int{0, 1, 2, 3, 6, 7, 254, 255, 256, 257, 65534, 65535, 65536, 1<<24 - 1, 1 << 24, 1<<24 + 255, 1<<31 - 2} {
		for _, size := range []int{0, 1, 16, 17, 40} {
			for _, was := range []int{0, 20, 40} {
				ahead, is, next := bytesOf(gen-1, was), bytesOf(gen, 30), bytesOf(gen+1, size)
				ops := len(plan(17, gen+1, next))
				for at := range ops + 1 {
					for keep := range api.Sector + 1 {
						crashWithinSave(t, api.Crash{At: at, Left: left(4, keep)}, gen, ahead, is, next, at >= ops)
					}
				}
			}
		}
	}
}

// crashWithinSave saves generation by generation, the last one with a crash, and holds all of it against the model.
func crashWithinSave(t *testing.T, c api.Crash, gen int, ahead, is, next []byte, well bool) {
	t.Helper()
	d, m := disk.New(17), disk.New(17)
	for _, x := range []*disk.Disk{d, m} {
		if gen > 1 {
			mustSave(t, x, gen-1, ahead)
		}
		if gen > 0 {
			mustSave(t, x, gen, is)
		} else {
			is = nil
		}
		x.Restart()
		x.Arm(c)
	}
	e := slot.Save(d, gen+1, next)
	if want := modelSave(m, gen+1, next); e != want || (e == api.OK) != well {
		t.Fatalf("generation %d, crash at %d: %d, want %d", gen+1, c.At, e, want)
	}
	sameDisks(t, d, m)
	sameLoad(t, d)
	got := mustBeEither(t, d, gen, is, next)
	d.Restart()
	if mustBeEither(t, d, gen, is, next) != got || well && got != gen+1 {
		t.Fatalf("generation %d, crash at %d: %d is loaded", gen+1, c.At, got)
	}
	// It can be saved again, whatever is left.
	mustSave(t, d, gen+1, next)
	mustLoad(t, d, gen+1, next)
}

func TestWhenItIsSaved(t *testing.T) {
	is, next := text(40), []byte("next, and somewhat longer than a sector")
	ops := len(plan(17, 8, next))
	for at := range ops + 1 {
		for keep := range api.Sector + 1 {
			d := disk.New(17)
			mustSave(t, d, 6, next)
			mustSave(t, d, 7, is)
			d.Restart()
			d.Arm(api.Crash{At: at, Left: left(4, keep)})
			slot.Save(d, 8, next)
			// The last Flush alone leaves a choice: either the head is there in all its bytes, or it is not.
			if at == ops || at == ops-1 && keep == api.Sector {
				mustLoad(t, d, 8, next)
			} else {
				mustLoad(t, d, 7, is)
			}
		}
	}
}

func TestCrashLeavesOneWriteOnly(t *testing.T) {
	is, next := text(40), bytesOf(8, 60)
	for at := range len(plan(17, 8, next)) + 1 {
		for one := range 4 {
			for keep := range api.Sector + 1 {
				l := left(4, 0)
				l[one].Keep = keep
				crashWithinSave(t, api.Crash{At: at, Left: l}, 7, next, is, next, at == len(plan(17, 8, next)))
			}
		}
	}
}

func TestCrashBehindCrash(t *testing.T) {
	// Behind each crash it goes on from what is loaded, as the next generation, with other bytes.
	for first := range 11 {
		for second := range 11 {
			for _, keeps := range [][2]int{{0, 0}, {0, 16}, {16, 0}, {16, 16}, {3, 4}, {4, 12}, {12, 4}, {15, 15}} {
				d := disk.New(17)
				mustSave(t, d, 6, bytesOf(6, 33))
				mustSave(t, d, 7, bytesOf(7, 70))
				gen, is := 7, bytesOf(7, 70)
				for i, at := range []int{first, second} {
					d.Restart()
					d.Arm(api.Crash{At: at, Left: left(5, keeps[i])})
					next := bytesOf(100*(i+1)+gen, 60+i)
					slot.Save(d, gen+1, next)
					if mustBeEither(t, d, gen, is, next) > gen {
						gen, is = gen+1, next
					}
				}
				d.Restart()
				mustLoad(t, d, gen, is)
			}
		}
	}
}

// feed is bytes that say what is to be done.
type feed []byte

// next is the next byte; 0, if there is none.
func (f *feed) next() int {
	if len(*f) == 0 {
		return 0
	}
	b := (*f)[0]
	*f = (*f)[1:]
	return int(b)
}

// mixed is so many bytes of a plain mixture.
func mixed(seed uint32, size int) []byte {
	b := make([]byte, size)
	for i, x := 0, seed; i < size; i++ {
		x = x*1664525 + 1013904223
		b[i] = byte(x >> 24)
	}
	return b
}

// rises saves generations that rise by one, with crashes as the bytes say, and says what is loaded each time.
func rises(t *testing.T, do []byte) {
	f := feed(do)
	d := disk.New(17)
	gen, is := 0, []byte(nil)
	for len(f) > 0 {
		d.Restart()
		if f.next()%3 > 0 {
			d.Arm(api.Crash{At: f.next() % 11, Left: left(f.next()%6, f.next()%18)})
		}
		next := bytesOf(f.next(), f.next()%81)
		e := slot.Save(d, gen+1, next)
		got := mustBeEither(t, d, gen, is, next)
		if e == api.OK && got != gen+1 {
			t.Fatalf("Save(%d) was well, and %d is loaded", gen+1, got)
		}
		if got > gen {
			gen, is = got, next
		}
		sameLoad(t, d)
	}
}

// against does with a disk and with the model what the bytes say, and holds one against the other.
func against(t *testing.T, do []byte) {
	f := feed(do)
	n := f.next() % 24
	d, m := disk.New(n), disk.New(n)
	for len(f) > 0 {
		got, want := api.OK, api.OK
		switch what := f.next() % 16; {
		case what < 8:
			gen, b := f.next()%5<<(f.next()%4*8)-f.next()%2, bytes.Repeat([]byte{byte(f.next())}, f.next()%150)
			got, want = slot.Save(d, gen, b), modelSave(m, gen, b)
		case what < 12:
			at, head := f.next()%26-1, headOf(uint32(f.next())<<(f.next()%4*8), make([]byte, f.next()%40))
			got, want = d.Write(at, head), m.Write(at, head)
		case what < 14:
			c := api.Crash{At: d.Ops() + f.next()%12, Left: left(f.next()%6, f.next()%18)}
			d.Arm(c)
			m.Arm(c)
		default:
			d.Restart()
			m.Restart()
		}
		if got != want {
			t.Fatalf("%d, want %d", got, want)
		}
		sameDisks(t, d, m)
		sameLoad(t, d)
	}
}

func TestRises(t *testing.T) {
	for seed := range uint32(300) {
		rises(t, mixed(seed, 600))
	}
}

func TestAgainstModel(t *testing.T) {
	for seed := range uint32(300) {
		against(t, mixed(seed, 600))
	}
}

func FuzzRises(f *testing.F) {
	for seed := range uint32(8) {
		f.Add(mixed(seed, 200))
	}
	f.Fuzz(rises)
}

func FuzzAgainstModel(f *testing.F) {
	for seed := range uint32(8) {
		f.Add(mixed(seed, 200))
	}
	f.Fuzz(against)
}

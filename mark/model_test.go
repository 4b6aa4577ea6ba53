package mark_test

import (
	"bytes"
	"encoding/binary"
	"fmt"
	"hash/crc32"
	"math"
	"math/big"
	"slices"
	"strings"
	"testing"

	"lazarus/api"
	"lazarus/disk"
	"lazarus/mark"
)

// castagnoli is the table of the sum as the library of Go works it out.
var castagnoli = crc32.MakeTable(crc32.Castagnoli)

// headOf is the head of a span.
func headOf(tag uint32, b []byte) []byte {
	var head []byte
	for _, n := range []uint32{tag, uint32(len(b)), crc32.Checksum(b, castagnoli), tag} {
		head = binary.BigEndian.AppendUint32(head, n)
	}
	return head
}

// modelIs tells whether m is a mark.
func modelIs(m api.Mark) bool {
	switch {
	case m.Gen < 0 || m.Gen > math.MaxInt32-1:
		return false
	case m.N < 0 || m.N > math.MaxInt32:
		return false
	case !m.Done && m.Answer.Status != 0:
		return false
	case !m.Done && m.Answer.Out != "":
		return false
	}
	return true
}

// modelBytes is a mark's bytes.
func modelBytes(m api.Mark) []byte {
	if !modelIs(m) {
		return nil
	}
	return fmt.Appendf(nil, "%d;%d;%d;%d;%s", m.N, map[bool]int{true: 1}[m.Done], m.Answer.Status, len(m.Answer.Out), m.Answer.Out)
}

// modelNum is s as a whole number, however great; nil, if it is none, or is written otherwise.
func modelNum(s string) *big.Int {
	n, ok := new(big.Int).SetString(s, 10)
	if !ok || n.String() != s {
		return nil
	}
	return n
}

// modelRead is bytes' mark.
func modelRead(b []byte) (api.Mark, bool) {
	f := strings.SplitN(string(b), ";", 5)
	if len(f) < 5 {
		return api.Mark{}, false
	}
	n, status, size := modelNum(f[0]), modelNum(f[2]), modelNum(f[3])
	switch {
	case n == nil || status == nil || size == nil || !status.IsInt64():
		return api.Mark{}, false
	case n.Sign() < 0 || n.Cmp(big.NewInt(math.MaxInt32)) > 0:
		return api.Mark{}, false
	case size.Cmp(big.NewInt(int64(len(f[4])))) != 0:
		return api.Mark{}, false
	case f[1] == "1":
		return done(int(n.Int64()), int(status.Int64()), f[4]), true
	case f[1] == "0" && f[2] == "0" && f[3] == "0":
		return call(int(n.Int64())), true
	}
	return api.Mark{}, false
}

// does is one operation of a disk: a Write, or a Flush if it has no row.
type does struct {
	at  int
	row []byte
}

// plan is all operations of an Append, told as plainly as can be, and the sector behind its span.
func plan(n, at int, m api.Mark) ([]does, int) {
	b := modelBytes(m)
	next := at + sectors(len(b))
	var l []does
	if next < n {
		l = append(l, does{next, make([]byte, api.Sector)}, does{})
	}
	filled := append(bytes.Clone(b), make([]byte, api.Sector)...)
	for i := 0; i*api.Sector < len(b); i++ {
		l = append(l, does{at + 1 + i, filled[i*api.Sector:][:api.Sector]})
	}
	return append(l, does{}, does{at, headOf(uint32(m.Gen+1), b)}, does{}), next
}

// perform does operations up to the first error.
func perform(d *disk.Disk, l []does) api.Errno {
	for _, o := range l {
		e := api.OK
		if o.row == nil {
			e = d.Flush()
		} else {
			e = d.Write(o.at, o.row)
		}
		if e != api.OK {
			return e
		}
	}
	return api.OK
}

// modelAppend appends a mark.
func modelAppend(d *disk.Disk, at int, m api.Mark) (int, api.Errno) {
	if !modelIs(m) || at < first(d.Size()) || at > d.Size()-1 {
		return 0, api.ErrArg
	}
	l, next := plan(d.Size(), at, m)
	if next > d.Size() {
		return 0, api.ErrFull
	}
	if e := perform(d, l); e != api.OK {
		return 0, e
	}
	return next, api.OK
}

// modelAt is the mark of a generation at a sector, and the sector behind it; false, if there is none.
func modelAt(d *disk.Disk, at, gen int) (api.Mark, int, bool) {
	if at >= d.Size() || gen < 0 || gen > math.MaxInt32-1 {
		return api.Mark{}, 0, false
	}
	head := d.Read(at)
	var behind []byte
	for i := at + 1; i < d.Size(); i++ {
		behind = append(behind, d.Read(i)...)
	}
	size := int(binary.BigEndian.Uint32(head[4:]))
	if size > len(behind) || !bytes.Equal(head, headOf(uint32(gen+1), behind[:size])) {
		return api.Mark{}, 0, false
	}
	m, ok := modelRead(behind[:size])
	if !ok {
		return api.Mark{}, 0, false
	}
	return of(gen, m), at + sectors(size), true
}

// modelScan is all marks of a generation.
func modelScan(d *disk.Disk, gen int) ([]api.Mark, int) {
	at := first(d.Size())
	m, next, ok := modelAt(d, at, gen)
	var l []api.Mark
	for ok {
		l, at = append(l, m), next
		m, next, ok = modelAt(d, at, gen)
	}
	return l, at
}

// sameScan holds Scan against the model.
func sameScan(t *testing.T, d *disk.Disk, gen int) {
	t.Helper()
	l, next := mark.Scan(d, gen)
	want, wantNext := modelScan(d, gen)
	if !slices.Equal(l, want) || next != wantNext {
		t.Fatalf("Scan(%d) = %v, %d; want %v, %d", gen, l, next, want, wantNext)
	}
}

// sameDisks holds one disk against the other.
func sameDisks(t *testing.T, got, want *disk.Disk) {
	t.Helper()
	if got.Ops() != want.Ops() || got.Down() != want.Down() || !slices.Equal(all(got), all(want)) {
		t.Fatalf("Ops %d, want %d; Down %v, want %v; %q, want %q", got.Ops(), want.Ops(), got.Down(), want.Down(), all(got), all(want))
	}
}

// left is so many bytes of each of so many writes.
func left(writes, keep int) []api.Choice {
	return slices.Repeat([]api.Choice{{Keep: keep}}, writes)
}

// mustBeEither says that what is scanned is a row of marks, all of it or all but the last one.
func mustBeEither(t *testing.T, d *disk.Disk, gen int, l []api.Mark) int {
	t.Helper()
	got, next := mark.Scan(d, gen)
	ahead := l[:max(0, len(l)-1)]
	if !slices.Equal(got, l) && !slices.Equal(got, ahead) {
		t.Fatalf("Scan(%d) = %v; want %v, or all but the last one", gen, got, l)
	}
	at := first(d.Size())
	for _, m := range got {
		at += sectors(len(modelBytes(m)))
	}
	if next != at {
		t.Fatalf("Scan(%d) = %v, %d; want %d", gen, got, next, at)
	}
	return len(got)
}

func TestReadAgainstModel(t *testing.T) {
	var l []string
	for _, c := range known {
		l = append(l, c.want)
	}
	for _, s := range append(l, noMarkBytes...) {
		sameRead(t, []byte(s))
	}
	for _, n := range []string{"", "0", "-0", "00", "3", "03", "-1", "2147483647", "2147483648", "4294967299"} {
		for _, is := range []string{"", "0", "1", "2", "-1", "01", "4294967297"} {
			for _, status := range []string{"", "0", "-0", "1", "-1", "01", "9223372036854775807", "9223372036854775808", "-9223372036854775808", "-9223372036854775809"} {
				for _, size := range []string{"", "0", "1", "2", "-1", "01", "18446744073709551617"} {
					for _, out := range []string{"", ";", "a", "ab"} {
						sameRead(t, []byte(n+";"+is+";"+status+";"+size+";"+out))
					}
				}
			}
		}
	}
}

// sameRead holds Read against the model.
func sameRead(t *testing.T, b []byte) {
	t.Helper()
	m, ok := mark.Read(b)
	want, wantOK := modelRead(b)
	if m != want || ok != wantOK {
		t.Errorf("Read(%q) = %v, %v; want %v, %v", b, m, ok, want, wantOK)
	}
	if ok && !bytes.Equal(mark.Bytes(m), b) {
		t.Errorf("Bytes(%v) = %q, want %q", m, mark.Bytes(m), b)
	}
}

// history is what a disk went through ahead of the row that crashes: rows of elder generations.
type history [][]api.Mark

// histories are those of generations ahead of gen.
func histories(gen int) []history {
	like := func(sector int) api.Mark {
		return of(gen-1, done(0, 0, likeMarks(of(gen-1, done(0, 0, strings.Repeat("x", 200))), gen, sector, 5)))
	}
	return []history{
		{},
		{{of(gen-1, call(0)), of(gen-1, done(0, 0, "out")), of(gen-1, call(1)), of(gen-1, done(1, 0, "out"))}},
		{{of(gen-1, sized(0, 70)), of(gen-1, sized(1, 40)), of(gen-1, call(2))}},
		{{like(0)}},
		{{like(1)}},
		{{of(gen-1, call(0)), like(0)}, {of(gen-1, like(1))}, {of(gen-1, call(0))}},
	}
}

func TestCrashWithinAppend(t *testing.T) {
	for _, gen := range []int{4, 255, 1<<31 - 2} {
		rows := [][]api.Mark{
			{of(gen, call(0))},
			{of(gen, sized(0, 20))},
			{of(gen, call(0)), of(gen, done(0, -1, ""))},
			{of(gen, call(0)), of(gen, sized(0, 33))},
			{of(gen, sized(0, 33)), of(gen, call(1)), of(gen, sized(1, 40)), of(gen, call(2))},
		}
		for _, h := range histories(gen) {
			for _, l := range rows {
				for at := range 12 {
					for keep := range api.Sector + 1 {
						crashWithinAppend(t, api.Crash{At: at, Left: left(4, keep)}, h, l)
					}
				}
			}
		}
	}
}

func TestCrashLeavesOneWriteOnly(t *testing.T) {
	for _, h := range histories(4) {
		for _, last := range []api.Mark{call(1), sized(1, 40), sized(1, 70)} {
			for at := range 12 {
				for one := range 5 {
					for keep := range api.Sector + 1 {
						l := left(5, 0)
						l[one].Keep = keep
						crashWithinAppend(t, api.Crash{At: at, Left: l}, h, []api.Mark{of(4, call(0)), of(4, last)})
						crashWithinAppend(t, api.Crash{At: at, Left: l}, h, []api.Mark{of(4, last)})
					}
				}
			}
		}
	}
}

// crashWithinAppend appends a row, the last one with a crash, and holds all of it against the model.
func crashWithinAppend(t *testing.T, c api.Crash, h history, l []api.Mark) {
	t.Helper()
	d, m := disk.New(80), disk.New(80)
	gen, end := l[0].Gen, len(l)-1
	at := 0
	for _, x := range []*disk.Disk{d, m} {
		for _, elder := range h {
			mustAppendAll(t, x, elder...)
		}
		at = mustAppendAll(t, x, l[:end]...)
		x.Restart()
		x.Arm(c)
	}
	next, e := mark.Append(d, at, l[end])
	wantNext, want := modelAppend(m, at, l[end])
	do, _ := plan(80, at, l[end])
	if next != wantNext || e != want || (e == api.OK) != (c.At >= len(do)) {
		t.Fatalf("crash at %d: %d, %d; want %d, %d", c.At, next, e, wantNext, want)
	}
	sameDisks(t, d, m)
	sameScan(t, d, gen)
	sameScan(t, d, gen-1)
	got := mustBeEither(t, d, gen, l)
	// The last Flush alone leaves a choice; fewer bytes of the head may be all of it, where the others were there.
	is := c.At >= len(do) || c.At == len(do)-1 && c.Left[0].Keep == api.Sector
	if is && got == end || c.At < len(do)-1 && got > end {
		t.Fatalf("crash at %d: %d of %d are scanned", c.At, got, len(l))
	}
	d.Restart()
	if mustBeEither(t, d, gen, l) != got {
		t.Fatalf("crash at %d: behind Restart it is not %d", c.At, got)
	}
	if got == end {
		// It can be appended again, whatever is left.
		mustAppend(t, d, at, l[end])
	}
	mustScan(t, d, gen, l...)
}

func TestCrashBehindCrash(t *testing.T) {
	// Behind each crash it goes on from what is scanned, with another mark.
	keeps := [][2]int{{0, 0}, {0, 16}, {16, 0}, {16, 16}, {3, 4}, {4, 12}, {12, 4}, {15, 15}}
	for _, h := range histories(4) {
		for one := range 12 {
			for two := range 12 {
				for _, k := range keeps {
					d := disk.New(80)
					for _, elder := range h {
						mustAppendAll(t, d, elder...)
					}
					l := []api.Mark(nil)
					for i, at := range []int{one, two} {
						d.Restart()
						d.Arm(api.Crash{At: at, Left: left(4, k[i])})
						_, next := mark.Scan(d, 4)
						mark.Append(d, next, of(4, sized(i, 20+30*i)))
						l = append(l, of(4, sized(i, 20+30*i)))
						l = l[:mustBeEither(t, d, 4, l)]
					}
					d.Restart()
					mustScan(t, d, 4, l...)
				}
			}
		}
	}
}

// feed is bytes that say what is to be done.
type feed []byte

// next is the next byte; 0, if there is none.
func (f *feed) next() int {
	if len(*f) == 0 {
		return 0
	}
	b := (*f)[0]
	*f = (*f)[1:]
	return int(b)
}

// mixed is so many bytes of a plain mixture.
func mixed(seed uint32, size int) []byte {
	b := make([]byte, size)
	for i, x := 0, seed; i < size; i++ {
		x = x*1664525 + 1013904223
		b[i] = byte(x >> 24)
	}
	return b
}

// anyMark is a mark as the bytes say; its Answer may look like marks of the generation, or the one after it.
func anyMark(f *feed, gen, n int) api.Mark {
	switch f.next() % 6 {
	case 0, 1, 2:
		return of(gen, call(n))
	case 3:
		return of(gen, done(n, f.next()-128, string(text(f.next()%120))))
	}
	plain := of(gen, done(n, 0, strings.Repeat("x", 100)))
	if !modelIs(plain) {
		return plain
	}
	plain.Answer.Out = likeMarks(plain, gen+f.next()%2, f.next()%2, 1+f.next()%2)
	return plain
}

// rises appends generations that rise by one, with crashes as the bytes say, and says what is scanned each time.
func rises(t *testing.T, do []byte) {
	f := feed(do)
	d := disk.New(80)
	gen, l, at := f.next(), []api.Mark(nil), first(80)
	for len(f) > 0 {
		d.Restart()
		if f.next()%8 == 0 {
			gen, l, at = gen+1, nil, first(80)
		}
		if f.next()%3 == 0 {
			d.Arm(api.Crash{At: f.next() % 15, Left: left(f.next()%6, f.next()%18)})
		}
		m := anyMark(&f, gen, len(l))
		next, e := mark.Append(d, at, m)
		if e == api.ErrFull || e == api.ErrArg {
			mustScan(t, d, gen, l...)
			gen, l, at = gen+1, nil, first(80)
			continue
		}
		all := append(l, m)
		got := mustBeEither(t, d, gen, all)
		if e == api.OK && got != len(all) {
			t.Fatalf("Append of %v was well, and %d are scanned", m, got)
		}
		sameScan(t, d, gen)
		l = all[:got]
		_, at = mark.Scan(d, gen)
		if e == api.OK && at != next {
			t.Fatalf("Append = %d, Scan = %d", next, at)
		}
	}
}

// against does with a disk and with the model what the bytes say, and holds one against the other.
func against(t *testing.T, do []byte) {
	f := feed(do)
	n := f.next() % 40
	d, m := disk.New(n), disk.New(n)
	for len(f) > 0 {
		next, e, wantNext, want := 0, api.OK, 0, api.OK
		switch what := f.next() % 16; {
		case what < 9:
			x := anyMark(&f, f.next()%4<<(f.next()%4*8)-f.next()%2, f.next()-2)
			at := first(n) - 1 + f.next()%(n-first(n)+3)
			next, e = mark.Append(d, at, x)
			wantNext, want = modelAppend(m, at, x)
		case what < 12:
			at := first(n) - 1 + f.next()%(n-first(n)+3)
			head := headOf(uint32(f.next())<<(f.next()%4*8), make([]byte, f.next()%40))
			e, want = d.Write(at, head), m.Write(at, head)
		case what < 14:
			c := api.Crash{At: d.Ops() + f.next()%12, Left: left(f.next()%6, f.next()%18)}
			d.Arm(c)
			m.Arm(c)
		default:
			d.Restart()
			m.Restart()
		}
		if next != wantNext || e != want {
			t.Fatalf("%d, %d; want %d, %d", next, e, wantNext, want)
		}
		sameDisks(t, d, m)
		sameScan(t, d, f.next()%4<<(f.next()%4*8)-f.next()%2)
	}
}

func TestRises(t *testing.T) {
	for seed := range uint32(300) {
		rises(t, mixed(seed, 600))
	}
}

func TestAgainstModel(t *testing.T) {
	for seed := range uint32(300) {
		against(t, mixed(seed, 600))
	}
}

func FuzzRead(f *testing.F) {
	for _, c := range known {
		f.Add([]byte(c.want))
	}
	for _, s := range noMarkBytes {
		f.Add([]byte(s))
	}
	f.Fuzz(func(t *testing.T, b []byte) { sameRead(t, b) })
}

func FuzzRises(f *testing.F) {
	for seed := range uint32(8) {
		f.Add(mixed(seed, 200))
	}
	f.Fuzz(rises)
}

func FuzzAgainstModel(f *testing.F) {
	for seed := range uint32(8) {
		f.Add(mixed(seed, 200))
	}
	f.Fuzz(against)
}

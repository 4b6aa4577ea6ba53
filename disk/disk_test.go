package disk_test

import (
	"bytes"
	"math"
	"slices"
	"strings"
	"testing"

	"lazarus/api"
	"lazarus/disk"
)

// blank is a sector that was never written.
var blank = strings.Repeat("\x00", api.Sector)

// row is a sector of one letter.
func row(c byte) []byte { return bytes.Repeat([]byte{c}, api.Sector) }

// mixed is a sector that begins with so many bytes of one and goes on as the other.
func mixed(size int, one, other string) string { return one[:size] + other[size:] }

// at is a crash ahead of operation n that leaves so many bytes of each pending write.
func at(n int, keeps ...int) api.Crash {
	c := api.Crash{At: n}
	for _, k := range keeps {
		c.Left = append(c.Left, api.Choice{Keep: k})
	}
	return c
}

// all is each sector of a disk.
func all(d *disk.Disk) []string {
	var l []string
	for i := range d.Size() {
		l = append(l, string(d.Read(i)))
	}
	return l
}

// short is each sector of a disk, by its first byte.
func short(d *disk.Disk) string {
	var b []byte
	for i := range d.Size() {
		b = append(b, d.Read(i)[0])
	}
	return string(b)
}

// mustWrite writes sectors of one letter, one behind the other.
func mustWrite(t *testing.T, d *disk.Disk, from int, letters string) {
	t.Helper()
	for i := range len(letters) {
		if e := d.Write(from+i, row(letters[i])); e != api.OK {
			t.Fatalf("Write of %c to %d: %d", letters[i], from+i, e)
		}
	}
}

// mustFlush flushes.
func mustFlush(t *testing.T, d *disk.Disk) {
	t.Helper()
	if e := d.Flush(); e != api.OK {
		t.Fatalf("Flush: %d", e)
	}
}

// flushed is a disk with sectors of one letter on it, and no operation yet.
func flushed(t *testing.T, letters string) *disk.Disk {
	t.Helper()
	d := disk.New(len(letters))
	mustWrite(t, d, 0, letters)
	mustFlush(t, d)
	d.Restart()
	return d
}

// crashNow crashes a disk at its next operation.
func crashNow(t *testing.T, d *disk.Disk, keeps ...int) {
	t.Helper()
	d.Arm(at(0, keeps...))
	if e := d.Flush(); e != api.ErrCrash || !d.Down() {
		t.Fatalf("Flush: %d, Down: %v", e, d.Down())
	}
}

func TestExample(t *testing.T) {
	d := disk.New(2)
	d.Arm(at(1))
	one, other := d.Write(0, row('a')), d.Write(1, row('b'))
	if one != api.OK || other != api.ErrCrash {
		t.Errorf("%d, %d", one, other)
	}
}

func TestSizes(t *testing.T) {
	for _, n := range []int{math.MinInt, math.MinInt32, -api.Sectors, -2, -1, api.Sectors + 1, api.Sectors + 2, math.MaxInt32, math.MaxInt} {
		if disk.New(n) != nil {
			t.Errorf("New(%d) is a disk", n)
		}
	}
	for _, n := range []int{0, 1, 2, 3, 16, 17, api.Sectors - 1, api.Sectors} {
		d := disk.New(n)
		if d == nil {
			t.Fatalf("New(%d) is none", n)
		}
		if d.Size() != n || d.Ops() != 0 || d.Down() {
			t.Errorf("New(%d): Size %d, Ops %d, Down %v", n, d.Size(), d.Ops(), d.Down())
		}
		for i := range n {
			if got := string(d.Read(i)); got != blank {
				t.Fatalf("New(%d): sector %d is %q", n, i, got)
			}
		}
	}
}

func TestSectorsOutside(t *testing.T) {
	for _, n := range []int{0, 1, 5, api.Sectors} {
		d := disk.New(n)
		for _, i := range []int{math.MinInt, math.MinInt32, -n - 1, -2, -1, n, n + 1, 2*n + 1, math.MaxInt32, math.MaxInt} {
			if b := d.Read(i); b != nil {
				t.Errorf("of %d: Read(%d) = %q", n, i, b)
			}
			if e := d.Write(i, row('a')); e != api.ErrFull {
				t.Errorf("of %d: Write(%d) = %d", n, i, e)
			}
		}
		if d.Ops() != 0 || d.Flush() != api.OK || d.Ops() != 1 {
			t.Errorf("of %d: Ops %d", n, d.Ops())
		}
		if strings.Join(all(d), "") != strings.Repeat(blank, n) {
			t.Errorf("of %d: something was written", n)
		}
	}
}

func TestFirstAndLastSector(t *testing.T) {
	d := disk.New(api.Sectors)
	mustWrite(t, d, 0, "a")
	mustWrite(t, d, api.Sectors-1, "z")
	mustFlush(t, d)
	if string(d.Read(0)) != string(row('a')) || string(d.Read(api.Sectors-1)) != string(row('z')) {
		t.Errorf("%q, %q", d.Read(0), d.Read(api.Sectors-1))
	}
	if string(d.Read(1)) != blank || string(d.Read(api.Sectors-2)) != blank {
		t.Errorf("%q, %q", d.Read(1), d.Read(api.Sectors-2))
	}
}

func TestWrongWrites(t *testing.T) {
	d := disk.New(3)
	mustWrite(t, d, 0, "abc")
	was := all(d)
	for _, c := range []struct {
		i    int
		size int
		want api.Errno
	}{
		{0, 0, api.ErrArg},
		{0, 1, api.ErrArg},
		{1, api.Sector - 1, api.ErrArg},
		{1, api.Sector + 1, api.ErrArg},
		{2, 2 * api.Sector, api.ErrArg},
		{2, 1 << 20, api.ErrArg},
		// Both are wrong: what is named first counts.
		{3, api.Sector - 1, api.ErrArg},
		{-1, api.Sector + 1, api.ErrArg},
		{math.MaxInt, 0, api.ErrArg},
		{3, api.Sector, api.ErrFull},
		{-1, api.Sector, api.ErrFull},
	} {
		if e := d.Write(c.i, make([]byte, c.size)); e != c.want {
			t.Errorf("Write(%d, %d bytes) = %d, want %d", c.i, c.size, e, c.want)
		}
	}
	if e := d.Write(0, nil); e != api.ErrArg {
		t.Errorf("Write(0, nil) = %d", e)
	}
	// What lies in the spare room behind the end does not count.
	if e := d.Write(0, row('x')[:api.Sector-1]); e != api.ErrArg {
		t.Errorf("Write(0, a short piece) = %d", e)
	}
	if d.Ops() != 3 || d.Down() || !slices.Equal(all(d), was) {
		t.Errorf("Ops %d, Down %v, %q", d.Ops(), d.Down(), all(d))
	}
}

func TestWrongWritesHaveNoPlaceInLeft(t *testing.T) {
	d := flushed(t, "abc")
	mustWrite(t, d, 0, "x")
	d.Write(1, row('y')[1:])
	d.Write(3, row('y'))
	mustWrite(t, d, 2, "z")
	crashNow(t, d, 16, 16)
	if got := short(d); got != "xbz" {
		t.Errorf("%q", got)
	}
}

func TestPendingIsReadAndFlushed(t *testing.T) {
	d := disk.New(3)
	mustWrite(t, d, 1, "a")
	if got := short(d); got != "\x00a\x00" {
		t.Errorf("pending: %q", got)
	}
	mustFlush(t, d)
	if got := short(d); got != "\x00a\x00" {
		t.Errorf("flushed: %q", got)
	}
	d.Restart()
	if got := short(d); got != "\x00a\x00" {
		t.Errorf("behind Restart: %q", got)
	}
	mustFlush(t, d)
	if got := short(d); got != "\x00a\x00" {
		t.Errorf("flushed once more: %q", got)
	}
}

func TestEveryByteIsWritten(t *testing.T) {
	b := make([]byte, api.Sector)
	for i := range b {
		b[i] = byte(255 - 13*i)
	}
	d := disk.New(2)
	if e := d.Write(0, b); e != api.OK || !bytes.Equal(d.Read(0), b) || string(d.Read(1)) != blank {
		t.Errorf("pending: %d, %x, %x", e, d.Read(0), d.Read(1))
	}
	mustFlush(t, d)
	d.Restart()
	if !bytes.Equal(d.Read(0), b) || string(d.Read(1)) != blank {
		t.Errorf("flushed: %x, %x", d.Read(0), d.Read(1))
	}
}

func TestTwoWritesToOneSector(t *testing.T) {
	d := disk.New(2)
	for _, c := range []byte("abcab") {
		mustWrite(t, d, 1, string(c))
		if got := string(d.Read(1)); got != string(row(c)) {
			t.Errorf("pending: %q, want %c", got, c)
		}
	}
	mustFlush(t, d)
	d.Restart()
	if got := short(d); got != "\x00b" {
		t.Errorf("flushed: %q", got)
	}
}

func TestPendingIsGoneBehindRestart(t *testing.T) {
	d := flushed(t, "abc")
	mustWrite(t, d, 0, "x")
	mustWrite(t, d, 0, "yz")
	d.Restart()
	if got := short(d); got != "abc" || d.Ops() != 0 || d.Down() {
		t.Errorf("%q, Ops %d, Down %v", got, d.Ops(), d.Down())
	}
	// It does not come back with what is flushed later.
	mustWrite(t, d, 2, "w")
	mustFlush(t, d)
	if got := short(d); got != "abw" {
		t.Errorf("flushed: %q", got)
	}
	// Nor has it a place in Left.
	mustWrite(t, d, 0, "q")
	d.Restart()
	mustWrite(t, d, 1, "r")
	crashNow(t, d, 16)
	if got := short(d); got != "arw" {
		t.Errorf("crashed: %q", got)
	}
}

func TestFlushedIsPendingNoMore(t *testing.T) {
	d := flushed(t, "abc")
	mustWrite(t, d, 0, "xy")
	mustFlush(t, d)
	mustWrite(t, d, 2, "z")
	// Left's first place is that of the third write; nothing of the others is torn.
	crashNow(t, d, 3)
	if got := all(d); got[0] != string(row('x')) || got[1] != string(row('y')) || got[2] != "zzzccccccccccccc" {
		t.Errorf("%q", got)
	}
}

func TestOps(t *testing.T) {
	d := disk.New(2)
	want := 0
	for range 50 {
		mustWrite(t, d, 0, "ab")
		mustFlush(t, d)
		mustFlush(t, d)
		d.Write(2, row('c'))
		d.Write(0, nil)
		d.Read(0)
		d.Arm(at(1000))
		want += 4
		if d.Ops() != want || d.Size() != 2 {
			t.Fatalf("Ops %d, want %d; Size %d", d.Ops(), want, d.Size())
		}
	}
	d.Restart()
	if d.Ops() != 0 || d.Size() != 2 {
		t.Errorf("behind Restart: Ops %d, Size %d", d.Ops(), d.Size())
	}
	mustFlush(t, d)
	if d.Ops() != 1 {
		t.Errorf("behind Restart, Flush: Ops %d", d.Ops())
	}
}

func TestCrashAtEachOperation(t *testing.T) {
	// Each operation, and what is on the disk when a crash ahead of it leaves nothing that is pending.
	steps := []struct {
		i    int
		c    byte
		disk string
	}{
		{0, 'x', "abc"}, {1, 'y', "abc"}, {-1, 0, "abc"}, {-1, 0, "xyc"}, {2, 'z', "xyc"}, {0, 'w', "xyc"},
		{-1, 0, "xyc"}, {0, 'v', "wyz"}, {0, 'u', "wyz"}, {-1, 0, "wyz"}, {-1, 0, "uyz"},
	}
	do := func(d *disk.Disk, k int) api.Errno {
		if steps[k].i < 0 {
			return d.Flush()
		}
		return d.Write(steps[k].i, row(steps[k].c))
	}
	for n := range len(steps) {
		d := flushed(t, "abc")
		d.Arm(at(n))
		for k := range steps {
			want, ops := api.OK, k+1
			if k >= n {
				want, ops = api.ErrCrash, n
			}
			if e := do(d, k); e != want || d.Ops() != ops || d.Down() != (k >= n) {
				t.Errorf("armed at %d: operation %d: %d, want %d; Ops %d, Down %v", n, k, e, want, d.Ops(), d.Down())
			}
		}
		if got := short(d); got != steps[n].disk {
			t.Errorf("armed at %d: %q, want %q", n, got, steps[n].disk)
		}
		d.Restart()
		if got := short(d); got != steps[n].disk || d.Down() || d.Ops() != 0 {
			t.Errorf("armed at %d, Restart: %q, Down %v, Ops %d", n, got, d.Down(), d.Ops())
		}
		for k := range steps {
			if e := do(d, k); e != api.OK {
				t.Errorf("armed at %d, Restart: operation %d: %d", n, k, e)
			}
		}
		if got := short(d); got != "uyz" {
			t.Errorf("armed at %d, Restart: %q", n, got)
		}
	}
	// Behind the last operation it is armed still.
	d := flushed(t, "abc")
	d.Arm(at(len(steps)))
	for k := range steps {
		if e := do(d, k); e != api.OK {
			t.Errorf("operation %d: %d", k, e)
		}
	}
	if d.Down() || d.Flush() != api.ErrCrash {
		t.Error("it does not crash behind the last")
	}
}

func TestCrashAtNextIfSoManyWereAlready(t *testing.T) {
	for _, n := range []int{math.MinInt, -1, 0, 1, 2, 3} {
		for _, flush := range []bool{true, false} {
			d := flushed(t, "ab")
			mustWrite(t, d, 0, "x")
			mustFlush(t, d)
			mustWrite(t, d, 1, "y")
			d.Arm(at(n, 4))
			if d.Down() || d.Ops() != 3 || short(d) != "xy" {
				t.Errorf("armed at %d: Down %v, Ops %d, %q", n, d.Down(), d.Ops(), short(d))
			}
			e := api.Errno(0)
			if flush {
				e = d.Flush()
			} else {
				e = d.Write(0, row('z'))
			}
			if e != api.ErrCrash || !d.Down() || d.Ops() != 3 || string(d.Read(0)) != string(row('x')) || string(d.Read(1)) != mixed(4, string(row('y')), string(row('b'))) {
				t.Errorf("armed at %d: %d, Down %v, Ops %d, %q", n, e, d.Down(), d.Ops(), all(d))
			}
		}
	}
	d := disk.New(1)
	d.Arm(at(math.MaxInt))
	for range 100 {
		mustWrite(t, d, 0, "a")
		mustFlush(t, d)
	}
	if d.Down() {
		t.Error("it crashed too early")
	}
}

func TestWrongWritesDoNotCrash(t *testing.T) {
	d := disk.New(1)
	d.Arm(at(0))
	for range 3 {
		if e := d.Write(0, nil); e != api.ErrArg || d.Down() {
			t.Errorf("Write(0, nil) = %d, Down %v", e, d.Down())
		}
		if e := d.Write(1, row('a')); e != api.ErrFull || d.Down() {
			t.Errorf("Write(1, ..) = %d, Down %v", e, d.Down())
		}
		if d.Read(0) == nil || d.Down() || d.Size() != 1 || d.Ops() != 0 {
			t.Error("asked")
		}
	}
	if e := d.Write(0, row('a')); e != api.ErrCrash || !d.Down() || string(d.Read(0)) != blank {
		t.Errorf("Write(0, ..) = %d, Down %v, %q", e, d.Down(), d.Read(0))
	}
}

func TestKeep(t *testing.T) {
	was, is := string(row('a')), string(row('x'))
	for k := -3; k <= api.Sector+3; k++ {
		for _, flush := range []bool{true, false} {
			d := flushed(t, "ab")
			mustWrite(t, d, 0, "x")
			d.Arm(at(1, k))
			if flush {
				d.Flush()
			} else {
				d.Write(1, row('y'))
			}
			want := mixed(max(0, min(k, api.Sector)), is, was)
			if got := string(d.Read(0)); !d.Down() || got != want || string(d.Read(1)) != string(row('b')) {
				t.Errorf("Keep %d: %q, want %q; %q", k, got, want, d.Read(1))
			}
		}
	}
	for k, want := range map[int]string{math.MinInt: was, math.MinInt32: was, math.MaxInt32: is, math.MaxInt: is} {
		d := flushed(t, "a")
		mustWrite(t, d, 0, "x")
		crashNow(t, d, k)
		if got := string(d.Read(0)); got != want {
			t.Errorf("Keep %d: %q", k, got)
		}
	}
}

func TestKeepTwiceInOneSector(t *testing.T) {
	a, x, y := string(row('a')), string(row('x')), string(row('y'))
	for one := range api.Sector + 1 {
		for other := range api.Sector + 1 {
			d := flushed(t, "a")
			mustWrite(t, d, 0, "x")
			mustWrite(t, d, 0, "y")
			crashNow(t, d, one, other)
			want := mixed(other, y, mixed(one, x, a))
			if got := string(d.Read(0)); got != want {
				t.Errorf("Keep %d, %d: %q, want %q", one, other, got, want)
			}
			d.Restart()
			if got := string(d.Read(0)); got != want {
				t.Errorf("Keep %d, %d, Restart: %q, want %q", one, other, got, want)
			}
		}
	}
}

func TestLeftOfFewerAndOfMore(t *testing.T) {
	for places := range 8 {
		keeps := make([]int, places)
		for k := range keeps {
			keeps[k] = api.Sector
		}
		d := flushed(t, "abcde")
		mustWrite(t, d, 0, "vwxyz")
		crashNow(t, d, keeps...)
		n := min(places, 5)
		if got, want := short(d), "vwxyz"[:n]+"abcde"[n:]; got != want {
			t.Errorf("%d places: %q, want %q", places, got, want)
		}
	}
	d := flushed(t, "abc")
	mustWrite(t, d, 0, "xyz")
	d.Arm(api.Crash{Left: []api.Choice{}})
	if d.Flush() != api.ErrCrash || short(d) != "abc" {
		t.Errorf("no place: %q", short(d))
	}
}

func TestLeftIsInOrderOfWrites(t *testing.T) {
	d := flushed(t, "abc")
	mustWrite(t, d, 2, "x")
	mustWrite(t, d, 0, "y")
	mustWrite(t, d, 1, "z")
	mustWrite(t, d, 2, "w")
	crashNow(t, d, 10, 0, -7, 2)
	want := []string{string(row('a')), string(row('b')), "wwxxxxxxxxcccccc"}
	if got := all(d); !slices.Equal(got, want) {
		t.Errorf("%q, want %q", got, want)
	}
}

func TestLeftOfNothingPending(t *testing.T) {
	d := flushed(t, "ab")
	crashNow(t, d, 16, 3, 5)
	if got := short(d); got != "ab" {
		t.Errorf("%q", got)
	}
	none := disk.New(0)
	crashNow(t, none, 16)
}

func TestDown(t *testing.T) {
	d := flushed(t, "ab")
	mustWrite(t, d, 0, "xy")
	mustWrite(t, d, 0, "z")
	crashNow(t, d, 2, 16)
	want := []string{"xxaaaaaaaaaaaaaa", string(row('y'))}
	for range 3 {
		for _, e := range []api.Errno{d.Write(0, row('w')), d.Write(0, nil), d.Write(2, row('w')), d.Write(-1, nil), d.Flush()} {
			if e != api.ErrCrash {
				t.Errorf("down: %d", e)
			}
		}
		if !d.Down() || d.Ops() != 3 || d.Size() != 2 || !slices.Equal(all(d), want) || d.Read(2) != nil || d.Read(-1) != nil {
			t.Errorf("Down %v, Ops %d, Size %d, %q", d.Down(), d.Ops(), d.Size(), all(d))
		}
		// To Arm it neither starts it nor tears it once more.
		d.Arm(at(9, 7, 7))
	}
	d.Restart()
	if d.Down() || d.Ops() != 0 || !slices.Equal(all(d), want) {
		t.Errorf("Restart: Down %v, Ops %d, %q", d.Down(), d.Ops(), all(d))
	}
	for range 20 {
		mustFlush(t, d)
	}
	if !slices.Equal(all(d), want) {
		t.Errorf("flushed: %q", all(d))
	}
}

func TestRestartDisarms(t *testing.T) {
	d := flushed(t, "ab")
	d.Arm(at(2, 16))
	mustWrite(t, d, 0, "x")
	d.Restart()
	for range 10 {
		mustWrite(t, d, 1, "y")
		mustFlush(t, d)
	}
	if got := short(d); got != "ay" {
		t.Errorf("%q", got)
	}
	// It crashes once only, and can be armed anew.
	for range 3 {
		d.Restart()
		mustWrite(t, d, 0, "p")
		crashNow(t, d)
		d.Restart()
		mustWrite(t, d, 0, "q")
		mustFlush(t, d)
		d.Restart()
		if got := short(d); got != "qy" {
			t.Errorf("%q", got)
		}
	}
}

func TestArmCountsFromRestart(t *testing.T) {
	d := disk.New(1)
	for range 7 {
		mustFlush(t, d)
	}
	d.Restart()
	d.Arm(at(2))
	mustFlush(t, d)
	mustFlush(t, d)
	if e := d.Flush(); e != api.ErrCrash {
		t.Errorf("the third Flush: %d", e)
	}
}

func TestLaterArmHolds(t *testing.T) {
	d := flushed(t, "ab")
	d.Arm(at(0, 1, 1))
	d.Arm(at(2, 0, 4))
	mustWrite(t, d, 0, "xy")
	if e := d.Flush(); e != api.ErrCrash {
		t.Errorf("Flush: %d", e)
	}
	if got := all(d); got[0] != string(row('a')) || got[1] != "yyyybbbbbbbbbbbb" {
		t.Errorf("%q", got)
	}
	d.Restart()
	d.Arm(at(1, 9))
	d.Arm(at(1))
	mustWrite(t, d, 0, "z")
	if d.Flush() != api.ErrCrash || string(d.Read(0)) != string(row('a')) {
		t.Errorf("%q", d.Read(0))
	}
}

func TestFlushedStaysTillWrittenAnew(t *testing.T) {
	d := flushed(t, "abcd")
	for k := range 10 {
		mustWrite(t, d, 0, "x")
		mustWrite(t, d, 3, "y")
		crashNow(t, d, k%3, 0)
		d.Restart()
		if got := all(d); got[1] != string(row('b')) || got[2] != string(row('c')) || got[3] != string(row('d')) {
			t.Fatalf("crash %d: %q", k, got)
		}
	}
	if got := string(d.Read(0)); got != "xxaaaaaaaaaaaaaa" {
		t.Errorf("%q", got)
	}
}

func TestNil(t *testing.T) {
	var d *disk.Disk
	for range 2 {
		d.Arm(at(3, 4))
		d.Arm(api.Crash{})
		for _, e := range []api.Errno{d.Write(0, row('a')), d.Write(0, nil), d.Write(-1, row('a')), d.Write(0, row('a')[1:]), d.Flush()} {
			if e != api.ErrCrash {
				t.Errorf("%d", e)
			}
		}
		if d.Read(0) != nil || d.Read(-1) != nil || !d.Down() || d.Ops() != 0 || d.Size() != 0 {
			t.Errorf("%q, Down %v, Ops %d, Size %d", d.Read(0), d.Down(), d.Ops(), d.Size())
		}
		d.Restart()
	}
}

func TestZeroHasNoSectors(t *testing.T) {
	d := &disk.Disk{}
	if d.Size() != 0 || d.Ops() != 0 || d.Down() || d.Read(0) != nil || d.Write(0, row('a')) != api.ErrFull || d.Flush() != api.OK {
		t.Error("a zero Disk")
	}
	crashNow(t, d, 1)
	d.Restart()
}

func TestHandedInIsNotChanged(t *testing.T) {
	d := flushed(t, "ab")
	whole := append(row('x'), "spare room"...)
	left := []api.Choice{{Keep: -5}, {Keep: 3}, {Keep: 99}, {Keep: 7}}
	wasWhole, wasLeft := slices.Clone(whole), slices.Clone(left)
	d.Arm(api.Crash{At: 3, Left: left[:3]})
	for range 3 {
		if e := d.Write(0, whole[:api.Sector]); e != api.OK {
			t.Fatalf("Write: %d", e)
		}
	}
	d.Write(1, whole)
	if d.Flush() != api.ErrCrash {
		t.Error("it did not crash")
	}
	d.Restart()
	mustWrite(t, d, 0, "yz")
	if !bytes.Equal(whole, wasWhole) || !slices.Equal(left, wasLeft) {
		t.Errorf("%q became %q, %v became %v", wasWhole, whole, wasLeft, left)
	}
}

func TestHandedInIsNotKept(t *testing.T) {
	d := flushed(t, "ab")
	b := row('x')
	left := []api.Choice{{Keep: 2}, {Keep: 4}}
	d.Arm(api.Crash{At: 2, Left: left})
	left[0].Keep, left[1].Keep = 16, 16
	d.Write(0, b)
	copy(b, row('y'))
	d.Write(1, b)
	copy(b, row('z'))
	if got := short(d); got != "xy" {
		t.Errorf("pending: %q", got)
	}
	left[0].Keep = 0
	d.Flush()
	if got := all(d); !d.Down() || got[0] != "xxaaaaaaaaaaaaaa" || got[1] != "yyyybbbbbbbbbbbb" {
		t.Errorf("crashed: %q", got)
	}
	d.Restart()
	d.Write(0, b)
	mustFlush(t, d)
	copy(b, row('w'))
	if got := short(d); got != "zy" {
		t.Errorf("flushed: %q", got)
	}
	// What lies in the spare room behind Left's end is no place.
	mustWrite(t, d, 0, "pq")
	left = []api.Choice{{Keep: 16}, {Keep: 16}}
	d.Arm(api.Crash{Left: left[:1]})
	d.Flush()
	if got := short(d); got != "py" {
		t.Errorf("spare room: %q", got)
	}
}

func TestAnswersAreNewMemory(t *testing.T) {
	spoil := func(b []byte) {
		b = b[:cap(b)]
		for i := range b {
			b[i] = '!'
		}
	}
	d := disk.New(2)
	check := func(when, want string) {
		t.Helper()
		one, other := d.Read(0), d.Read(0)
		spoil(one)
		if string(other) != want || string(d.Read(0)) != want || string(d.Read(1)) != blank {
			t.Errorf("%s: %q, %q, %q", when, other, d.Read(0), d.Read(1))
		}
	}
	check("new", blank)
	mustWrite(t, d, 0, "a")
	check("pending", string(row('a')))
	mustFlush(t, d)
	check("flushed", string(row('a')))
	mustWrite(t, d, 0, "b")
	crashNow(t, d, 5)
	check("down", "bbbbbaaaaaaaaaaa")
	d.Restart()
	check("behind Restart", "bbbbbaaaaaaaaaaa")
}

func TestAnswersStay(t *testing.T) {
	d := flushed(t, "a")
	first := d.Read(0)
	mustWrite(t, d, 0, "b")
	second := d.Read(0)
	mustFlush(t, d)
	third := d.Read(0)
	mustWrite(t, d, 0, "c")
	crashNow(t, d, 8)
	fourth := d.Read(0)
	d.Restart()
	mustWrite(t, d, 0, "d")
	mustFlush(t, d)
	if string(first) != string(row('a')) || string(second) != string(row('b')) || string(third) != string(row('b')) || string(fourth) != "ccccccccbbbbbbbb" {
		t.Errorf("%q, %q, %q, %q", first, second, third, fourth)
	}
}

func TestTwoDisksShareNothing(t *testing.T) {
	one, other := flushed(t, "ab"), flushed(t, "ab")
	mustWrite(t, one, 0, "xy")
	crashNow(t, one, 16, 3)
	if short(one) != "xy" || short(other) != "ab" || other.Down() || other.Ops() != 0 || other.Flush() != api.OK {
		t.Errorf("%q, %q, Down %v, Ops %d", short(one), short(other), other.Down(), other.Ops())
	}
}

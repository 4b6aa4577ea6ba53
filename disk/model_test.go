package disk_test

import (
	"bytes"
	"slices"
	"testing"

	"lazarus/api"
	"lazarus/disk"
)

// model is a disk told as plainly as can be: what is on it, and the list of what is pending.
type model struct {
	size   int
	onDisk map[int]string
	places []int
	rows   []string
	ops    int
	armed  []api.Crash
	down   bool
}

// read is a sector: its last pending write, else what is on the disk.
func (m *model) read(i int) string {
	for k := len(m.places) - 1; k >= 0; k-- {
		if m.places[k] == i {
			return m.rows[k]
		}
	}
	return m.stored(i)
}

// stored is a sector as it is on the disk.
func (m *model) stored(i int) string {
	if s, ok := m.onDisk[i]; ok {
		return s
	}
	return blank
}

// operation does one, if the model does not crash at it.
func (m *model) operation(do func()) api.Errno {
	if len(m.armed) == 0 || m.ops < m.armed[0].At {
		do()
		m.ops++
		return api.OK
	}
	for k, i := range m.places {
		size := 0
		if k < len(m.armed[0].Left) {
			size = max(0, min(m.armed[0].Left[k].Keep, api.Sector))
		}
		m.onDisk[i] = mixed(size, m.rows[k], m.stored(i))
	}
	m.places, m.rows, m.down = nil, nil, true
	return api.ErrCrash
}

// write writes a sector.
func (m *model) write(i int, b []byte) api.Errno {
	switch {
	case m.down:
		return api.ErrCrash
	case len(b) != api.Sector:
		return api.ErrArg
	case i < 0 || i >= m.size:
		return api.ErrFull
	}
	return m.operation(func() { m.places, m.rows = append(m.places, i), append(m.rows, string(b)) })
}

// flush flushes.
func (m *model) flush() api.Errno {
	if m.down {
		return api.ErrCrash
	}
	return m.operation(func() {
		for k, i := range m.places {
			m.onDisk[i] = m.rows[k]
		}
		m.places, m.rows = nil, nil
	})
}

// restart starts it anew.
func (m *model) restart() {
	m.places, m.rows, m.armed, m.ops, m.down = nil, nil, nil, 0, false
}

// against does with a disk and with the model what the bytes say, and holds one against the other.
func against(t *testing.T, does []byte) {
	const size = 4
	d, m := disk.New(size), &model{size: size, onDisk: map[int]string{}}
	next := func() int {
		if len(does) == 0 {
			return 0
		}
		b := does[0]
		does = does[1:]
		return int(b)
	}
	for step := 0; len(does) > 0; step++ {
		got, want := api.OK, api.OK
		switch what := next() % 16; {
		case what < 8:
			b := bytes.Repeat([]byte{byte('a' + next()%26)}, api.Sector)
			b[next()%api.Sector] = byte(step)
			i := next()%size - (next() % 16 / 15)
			b = b[next()%32/31:]
			got, want = d.Write(i, b), m.write(i, b)
		case what < 12:
			got, want = d.Flush(), m.flush()
		case what < 14:
			c := api.Crash{At: d.Ops() + next()%8 - 2}
			for range next() % 8 {
				c.Left = append(c.Left, api.Choice{Keep: next()%22 - 3})
			}
			d.Arm(c)
			m.armed = []api.Crash{c}
		default:
			d.Restart()
			m.restart()
		}
		sectors := []string{m.read(0), m.read(1), m.read(2), m.read(3)}
		if got != want || d.Down() != m.down || d.Ops() != m.ops || d.Size() != size || !slices.Equal(all(d), sectors) {
			t.Fatalf("step %d: %d, want %d; Down %v, want %v; Ops %d, want %d; %q, want %q", step, got, want, d.Down(), m.down, d.Ops(), m.ops, all(d), sectors)
		}
	}
}

// bytesFrom is so many bytes that follow from a number.
func bytesFrom(seed uint32, size int) []byte {
	b := make([]byte, size)
	for i := range b {
		seed = seed*1664525 + 1013904223
		b[i] = byte(seed >> 24)
	}
	return b
}

func TestAgainstModel(t *testing.T) {
	for seed := range uint32(400) {
		against(t, bytesFrom(seed, 1500))
	}
}

func FuzzAgainstModel(f *testing.F) {
	for seed := range uint32(8) {
		f.Add(bytesFrom(seed, 200))
	}
	f.Fuzz(func(t *testing.T, does []byte) { against(t, does) })
}

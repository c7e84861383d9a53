package disk_test

import (
	"slices"
	"strings"
	"testing"

	"falsework/api"
	"falsework/disk"
	"falsework/mixer"
)

// model is a disk as the chapter tells of one: a queue of pairs, and each byte by itself.
type model struct {
	base  [][]byte
	queue []waiting
	fuse  int
	dead  bool
}

type waiting struct {
	at    int
	bytes []byte
}

func newModel(sectors int) *model {
	m := &model{fuse: -1}
	for range sectors {
		m.base = append(m.base, make([]byte, sectorSize))
	}
	return m
}

func (m *model) get(at int) ([]byte, api.Errno) {
	if at < 0 || at >= len(m.base) {
		return make([]byte, sectorSize), noSector
	}
	for _, w := range slices.Backward(m.queue) {
		if w.at == at {
			return w.bytes, ok
		}
	}
	return m.base[at], ok
}

func (m *model) act(do func()) api.Errno {
	switch {
	case m.dead:
		return noPower
	case m.fuse == 0:
		m.dead = true
		return noPower
	case m.fuse > 0:
		m.fuse--
	}
	do()
	return ok
}

func (m *model) put(at int, s api.Sector) api.Errno {
	if at < 0 || at >= len(m.base) {
		return noSector
	}
	return m.act(func() { m.queue = append(m.queue, waiting{at, s[:]}) })
}

func (m *model) flush() api.Errno {
	return m.act(func() { m.drain(slices.Repeat([]int{sectorSize}, len(m.queue))) })
}

func (m *model) drain(keep []int) {
	for k, w := range m.queue {
		for i := range sectorSize {
			if k < len(keep) && i < keep[k] {
				m.base[w.at][i] = w.bytes[i]
			}
		}
	}
	m.queue = nil
}

func (m *model) power(keep []int) {
	m.drain(keep)
	m.fuse, m.dead = -1, false
}

func (m *model) sameAs(t *testing.T, d *disk.Disk, story string) {
	t.Helper()
	var ats []int
	for _, w := range m.queue {
		ats = append(ats, w.at)
	}
	if q := d.Queue(); !slices.Equal(q, ats) {
		t.Fatalf("%s: Queue %v; want %v", story, q, ats)
	}
	if d.Dead() != m.dead || d.Size() != len(m.base) {
		t.Fatalf("%s: dead %v, size %d", story, d.Dead(), d.Size())
	}
	for at := -1; at <= len(m.base); at++ {
		want, err := m.get(at)
		if s, e := d.Get(at); s != api.Sector(want) || e != err {
			t.Fatalf("%s: %d is %q, %d; want %q, %d", story, at, s, e, want, err)
		}
	}
}

// P8.1, P8.2, P8.3: many rows of calls, each held against the model behind each call.
func TestAsTheModel(t *testing.T) {
	mix := mixer.Mixer(81)
	upTo := func(n int) int { return int(mix.Next() % uint64(n)) }
	for range 400 {
		sectors := upTo(6)
		d, m := disk.Blank(sectors), newModel(sectors)
		var story strings.Builder
		for range 60 {
			switch upTo(12) {
			case 0:
				story.WriteString(" Flush")
				if got, want := d.Flush(), m.flush(); got != want {
					t.Fatalf("%s: %d; want %d", story.String(), got, want)
				}
			case 1:
				story.WriteString(" Fuse")
				acts := upTo(12) - 3
				d.Fuse(acts)
				m.fuse = acts
			case 2:
				story.WriteString(" Power")
				keep := make([]int, upTo(10))
				for i := range keep {
					keep[i] = upTo(80) - 8
				}
				d.Power(keep...)
				m.power(keep)
			default:
				story.WriteString(" Put")
				var s api.Sector
				for i := range s {
					s[i] = byte(mix.Next() >> 32)
				}
				at := upTo(sectors+2) - 1
				if got, want := d.Put(at, s), m.put(at, s); got != want {
					t.Fatalf("%s at %d: %d; want %d", story.String(), at, got, want)
				}
			}
			m.sameAs(t, d, story.String())
		}
	}
}

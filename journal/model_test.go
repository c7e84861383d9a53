package journal_test

import (
	"bytes"
	"encoding/binary"
	"slices"
	"testing"

	"falsework/api"
	"falsework/disk"
	"falsework/journal"
	"falsework/log"
	"falsework/mixer"
	"falsework/slot"
	"falsework/stamp"
)

// told is what Open tells; without an error, it has a journal.
type told struct {
	state   []byte
	records [][]byte
	e       api.Errno
}

func (v told) same(other told) bool {
	return v.e == other.e && bytes.Equal(v.state, other.state) && sameRecords(v.records, other.records)
}

func tell(t *testing.T, d *disk.Disk, size int) (*journal.Journal, told) {
	t.Helper()
	j, s, l, e := journal.Open(d, size)
	if (j == nil) != (e != ok) {
		t.Fatalf("Open: %v, %d", j, e)
	}
	if j != nil {
		wantNotReady(t, j)
	}
	return j, told{s, l, e}
}

// modelOpen is the chapter's own words, of what the layers below tell.
func modelOpen(d *disk.Disk, size int) told {
	if size < 1 || size > mostSize || d.Size() < 2*size+1 {
		return told{e: noJournal}
	}
	content, _, e := slot.Read(d, 0, size)
	if e != ok {
		return told{e: e}
	}
	floor, n := binary.Uvarint(content)
	// The library takes more bytes for a number than it has, too.
	if n <= 0 || len(binary.AppendUvarint(nil, floor)) != n || floor > mostFloor {
		return told{e: noJournal}
	}
	_, records, _ := log.Open(d, 2*size, d.Size(), floor)
	return told{content[n:], records, ok}
}

// aContent: what may count, or nearly.
func aContent(m *mixer.Mixer) []byte {
	switch m.UpTo(6) {
	case 0:
		return m.Bytes(m.UpTo(100))
	case 1:
		return numbered(m.Next()>>m.UpTo(8), m.Bytes(m.UpTo(90)))
	case 2:
		return slices.Repeat([]byte{0x80 | byte(m.UpTo(128))}, m.UpTo(12))
	}
	return numbered(uint64(m.UpTo(20)), m.Bytes(m.UpTo(90)))
}

// row lays records right behind one another, with stamps that mostly rise.
func row(m *mixer.Mixer, d *disk.Disk, at int) {
	n := uint64(m.UpTo(20))
	for range m.UpTo(6) {
		n += uint64(m.UpTo(8)+3) / 4
		b := closed(m.Bytes(m.UpTo(110)))
		stamp.Write(d, at, n, b)
		at += stamp.Span(len(b))
	}
}

// P12.1: whatever lies there, with each size.
func TestOpenByModel(t *testing.T) {
	m := mixer.Mixer(121)
	seen := map[api.Errno]int{}
	var many [4]int
	for range 6000 {
		d := disk.Blank(m.UpTo(20))
		for range 3 {
			size := 1 + m.UpTo(4)
			slot.Write(d, 0, size, aContent(&m))
			row(&m, d, 2*size)
			if m.UpTo(4) == 0 && d.Size() > 0 {
				stamp.Write(d, m.UpTo(d.Size()), uint64(m.UpTo(30)), closed(m.Bytes(m.UpTo(90))))
				d.Power(m.Keeps(3)...)
			}
		}
		for size := -1; size <= 10; size++ {
			want := modelOpen(d, size)
			_, got := tell(t, d, size)
			if !got.same(want) {
				t.Fatalf("Open of %d: %v; want %v; the disk has %v", size, got, want, contents(d))
			}
			seen[got.e]++
			if got.e == ok {
				many[min(len(got.records), 3)]++
			}
		}
	}
	// Else what lay there would show nothing.
	if min(seen[ok], seen[noSlot], seen[noJournal], slices.Min(many[:])) < 400 {
		t.Error("errors:", seen, "records:", many)
	}
}

// model is what a journal is, by the chapter's words, while nothing is cut off.
type model struct {
	size, all int
	floor     uint64
	state     []byte
	records   [][]byte
	room      int
	ready     bool
}

func (v *model) compact(state []byte) api.Errno {
	floor := v.floor + uint64(len(v.records))
	switch {
	case len(state) > mostState || floor > mostFloor:
		return noJournal
	case spanOf(len(numbered(floor, state))) > v.size:
		return noSlot
	}
	v.floor, v.state, v.records, v.room, v.ready = floor, state, nil, v.all, true
	return ok
}

func (v *model) append(record []byte) api.Errno {
	switch {
	case !v.ready:
		return noJournal
	case len(record) > mostRecord:
		return tooLong
	case spanOf(len(record)) > v.room:
		return full
	}
	v.records = append(v.records, record)
	v.room -= spanOf(len(record))
	return ok
}

// P12.2, P12.3, P12.4: rows of calls, each held against the model, and against what Open tells.
func TestCallsByModel(t *testing.T) {
	m := mixer.Mixer(122)
	seen := map[api.Errno]int{}
	for range 300 {
		size := 1 + m.UpTo(mostSize)>>m.UpTo(9)
		all := 1 + m.UpTo(400)>>m.UpTo(8)
		d := disk.Blank(2*size + all)
		v := model{size: size, all: all}
		if m.UpTo(3) == 0 {
			v.floor = min(m.Next()>>(4+m.UpTo(60)), mostFloor-uint64(m.UpTo(3)))
			number(t, d, 2*size+m.UpTo(all), v.floor)
		}
		state := m.Bytes(m.UpTo(size*inner - 16))
		j, e := journal.Format(d, size, state)
		if want := v.compact(state); e != want || (j == nil) != (e != ok) {
			t.Fatalf("Format of %d, %d bytes: %v, %d; want %d", size, len(state), j, e, want)
		} else if e != ok {
			continue
		}
		for range 25 {
			seen[v.step(t, &m, &j, d)]++
		}
		if t.Failed() {
			t.Fatalf("size %d, %d for the log", size, all)
		}
	}
	for _, e := range []api.Errno{ok, tooLong, full, noSlot, noJournal} {
		if seen[e] < 50 {
			t.Error("errors:", seen)
		}
	}
}

// step does one thing to both.
func (v *model) step(t *testing.T, m *mixer.Mixer, j **journal.Journal, d *disk.Disk) (e api.Errno) {
	t.Helper()
	switch m.UpTo(6) {
	case 0:
		state := m.Bytes(m.UpTo(mostState+3000) >> m.UpTo(14))
		e = (*j).Compact(state)
		wantErrno(t, "Compact", e, v.compact(state))
		wantCounts(t, d, v.size, v.floor, v.state)
	case 1:
		*j, v.ready = open(t, d, v.size, v.state, v.records), false
	default:
		record := m.Bytes(m.UpTo(mostRecord+3000) >> m.UpTo(13))
		e = (*j).Append(record)
		wantErrno(t, "Append", e, v.append(record))
	}
	if v.ready {
		wantReady(t, *j, v.room)
	} else {
		wantNotReady(t, *j)
	}
	open(t, d, v.size, v.state, v.records)
	return e
}

// How a life ends.
const (
	quiet = iota // not cut off
	gone         // Open tells what was there before what was cut off
	whole        // and what it would have made
)

// life is a journal on a disk, up to a crash: what Open must tell behind it, or, of what was cut off, may tell too.
type life struct {
	m    *mixer.Mixer
	d    *disk.Disk
	size int
	must told
	may  *told
}

func (v *life) compact(t *testing.T, j *journal.Journal) bool {
	t.Helper()
	made := told{state: v.m.Bytes(v.m.UpTo(v.size*inner - 12))}
	return v.took(t, j.Compact(made.state), made)
}

func (v *life) append(t *testing.T, j *journal.Journal) bool {
	t.Helper()
	record := v.m.Bytes(v.m.UpTo(300) >> v.m.UpTo(5))
	return v.took(t, j.Append(record), told{state: v.must.state, records: append(slices.Clip(v.must.records), record)})
}

// took tells whether there is power still.
func (v *life) took(t *testing.T, e api.Errno, made told) bool {
	t.Helper()
	switch e {
	case ok:
		v.must, v.may = made, nil
	case noPower:
		v.may = &made
		return false
	case full:
	default:
		t.Fatal("error:", e)
	}
	return true
}

// live opens what is there and does this and that, till the power goes.
func (v *life) live(t *testing.T) {
	j, got := tell(t, v.d, v.size)
	if !got.same(v.must) {
		t.Fatalf("opened again, without anything between: %v; before: %v", got, v.must)
	}
	v.d.Fuse(v.m.UpTo(40))
	if !v.compact(t, j) {
		return
	}
	for range v.m.UpTo(14) {
		if v.m.UpTo(6) == 0 {
			if !v.compact(t, j) {
				return
			}
		} else if !v.append(t, j) {
			if v.m.UpTo(3) == 0 {
				v.goOn(t, j)
			}
			return
		}
	}
}

// goOn: behind a crash that cut off an Append, the same journal is Compacted, and cut off again, maybe.
func (v *life) goOn(t *testing.T, j *journal.Journal) {
	v.d.Power(v.m.Keeps(6)...)
	v.settle(t)
	v.d.Fuse(v.m.UpTo(20))
	if v.compact(t, j) {
		for range v.m.UpTo(5) {
			if !v.append(t, j) {
				return
			}
		}
	}
}

// settle: behind a crash, Open tells one or the other, and the same again.
func (v *life) settle(t *testing.T) int {
	t.Helper()
	end := quiet
	_, got := tell(t, v.d, v.size)
	switch {
	case v.may != nil && got.same(*v.may):
		end, v.must = whole, *v.may
	case !got.same(v.must):
		t.Fatalf("Open: %v; want %v, or %v", got, v.must, v.may)
	case v.may != nil:
		end = gone
	}
	v.may = nil
	if _, again := tell(t, v.d, v.size); !again.same(got) {
		t.Fatalf("opened again, without anything between: %v; before: %v", again, got)
	}
	return end
}

// P12.5: many lives on one disk, each ended by a crash, wherever.
func TestCrashes(t *testing.T) {
	m := mixer.Mixer(123)
	var seen [3]int
	for range 1000 {
		size := 1 + m.UpTo(4)
		d := disk.Blank(2*size + 1 + m.UpTo(16))
		// Numbers that carry, and what is left of another log.
		number(t, d, d.Size()-1, uint64(m.UpTo(3)*0x0100+0xf0+m.UpTo(20)))
		v := life{m: &m, d: d, size: size, must: told{e: noSlot}}
		d.Fuse(m.UpTo(10) - 1)
		made := told{state: m.Bytes(m.UpTo(size*inner - 12))}
		_, e := journal.Format(d, size, made.state)
		v.took(t, e, made)
		for range 12 {
			d.Power(m.Keeps(6)...)
			seen[v.settle(t)]++
			if v.must.e != ok {
				break
			}
			v.live(t)
		}
	}
	// Else the crashes above would show nothing.
	if slices.Min(seen[:]) < 500 {
		t.Error("not cut off, gone, and whole:", seen)
	}
}

// copied: a disk of its own with the same sectors.
func copied(t *testing.T, d *disk.Disk) *disk.Disk {
	t.Helper()
	anew := disk.Blank(d.Size())
	for at, s := range contents(d) {
		wantErrno(t, "Put", anew.Put(at, s), ok)
	}
	wantErrno(t, "Flush", anew.Flush(), ok)
	return anew
}

// wantOneOf: behind a crash, the new one, or, unless all came in, the old one; it stays so, and a Compact leaves it behind.
func wantOneOf(t *testing.T, d *disk.Disk, first, second int, old, new told) {
	t.Helper()
	v := life{d: d, size: 2, must: old, may: &new}
	if v.settle(t) != whole && first == sectorSize && second == sectorSize {
		t.Fatalf("all came in, but Open tells %v", v.must)
	}
	j, _ := tell(t, d, 2)
	compact(t, j, []byte("behind"), 4)
	add(t, j, []byte("b"))
	open(t, d, 2, []byte("behind"), texts("b"))
}

// P12.5: of a state of two sectors, each pair of how many bytes come in, over what some Compacts left there, at numbers whose bytes carry.
func TestCutOffCompactEverywhere(t *testing.T) {
	base := disk.Blank(8)
	j := format(t, base, 2, []byte("0"))
	old := told{state: []byte("0")}
	for compacts := 1; compacts <= 0x0100; compacts++ {
		if slices.Contains([]int{1, 2, 0xff, 0x0100}, compacts) {
			add(t, j, []byte("a"))
			old.records = texts("a")
			for first := range sectorSize + 1 {
				for second := range sectorSize + 1 {
					d := copied(t, base)
					cut, _ := tell(t, d, 2)
					d.Fuse(2)
					wantErrno(t, "Compact", cut.Compact(counted(70)), noPower)
					d.Power(first, second)
					wantOneOf(t, d, first, second, old, told{state: counted(70)})
				}
			}
		}
		old = told{state: counted(compacts % 100)}
		compact(t, j, old.state, 4)
	}
}

// P12.5: of a record of two sectors likewise, over what was there, at stamps whose bytes carry.
func TestCutOffAppendEverywhere(t *testing.T) {
	for _, floor := range []uint64{0, 0xff, mostFloor - 9} {
		for before := range 2 {
			base := disk.Blank(8)
			if floor > 0 {
				lay(t, base, 4+before, floor, closed(bytes.Repeat([]byte{'o'}, 60)))
			}
			old := told{state: []byte("state"), records: texts("a")[:before]}
			add(t, format(t, base, 2, old.state), old.records...)
			made := told{state: old.state, records: append(slices.Clip(old.records), counted(60))}
			for first := range sectorSize + 1 {
				for second := range sectorSize + 1 {
					d := copied(t, base)
					cutAppend(t, d, old, first, second)
					wantOneOf(t, d, first, second, old, made)
				}
			}
		}
	}
}

// cutAppend: a journal with what was there, one of whose Appends is cut off.
func cutAppend(t *testing.T, d *disk.Disk, old told, first, second int) {
	t.Helper()
	j, got := tell(t, d, 2)
	if !got.same(old) {
		t.Fatalf("before: %v; want %v", got, old)
	}
	compact(t, j, old.state, 4)
	add(t, j, old.records...)
	d.Fuse(2)
	wantErrno(t, "Append", j.Append(counted(60)), noPower)
	d.Power(first, second)
}

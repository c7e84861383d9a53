package log_test

import (
	"bytes"
	"encoding/binary"
	"hash/crc32"
	"slices"
	"testing"

	"falsework/api"
	"falsework/disk"
	"falsework/log"
	"falsework/mixer"
	"falsework/stamp"
)

func numberOf(s api.Sector) uint64 { return binary.LittleEndian.Uint64(s[56:]) }

// modelRecord is the chapters' own words of what stands at the first of these sectors: its stamp, and how many it has; 0, if nothing does.
func modelRecord(sectors []api.Sector) (record []byte, number uint64, many int) {
	if len(sectors) == 0 || int(sectors[0][1]) > len(sectors) {
		return nil, 0, 0
	}
	number, many = numberOf(sectors[0]), int(sectors[0][1])
	var b []byte
	for i, s := range sectors[:many] {
		size := int(s[2])
		right := int(s[0]) == i && int(s[1]) == many && numberOf(s) == number && size <= inner
		// Each but the last one is full, and the last one has a byte, but where all are none.
		right = right && (size == inner || i == many-1 && (size > 0 || many == 1))
		if !right || len(bytes.Trim(s[3+size:56], "\x00")) > 0 {
			return nil, 0, 0
		}
		b = append(b, s[3:3+size]...)
	}
	n := len(b) - 4
	if number == 0 || n < 0 || binary.LittleEndian.Uint32(b[n:]) != crc32.ChecksumIEEE(b[:n]) {
		return nil, 0, 0
	}
	return b[:n], number, many
}

// modelOpen: the records, how much room is left, and the next stamp.
func modelOpen(sectors []api.Sector, floor uint64) (records [][]byte, room int, number uint64) {
	number = floor
	for _, s := range sectors {
		number = max(number, numberOf(s))
	}
	for last := floor; ; {
		r, n, many := modelRecord(sectors)
		if many == 0 || n <= last {
			return records, len(sectors), number + 1
		}
		records = append(records, r)
		sectors, last = sectors[many:], n
	}
}

// row lays records right behind one another, with stamps that mostly rise.
func row(m *mixer.Mixer, d *disk.Disk) {
	at, number := m.UpTo(d.Size()), uint64(m.UpTo(6))
	for range 2 + m.UpTo(6) {
		switch m.UpTo(12) {
		case 0: // the one before it had the same
		case 1:
			number = 1
		default:
			number += 1 + uint64(m.UpTo(3))
		}
		r := m.Bytes(m.UpTo(110))
		stamp.Write(d, at, number, closed(r))
		at += log.Need(len(r))
	}
}

// spoil does something to a disk that a log doesn't do.
func spoil(m *mixer.Mixer, d *disk.Disk) {
	at := m.UpTo(d.Size())
	switch m.UpTo(5) {
	case 0:
		s, _ := d.Get(at)
		s[m.UpTo(sectorSize)] ^= 1 << m.UpTo(8)
		d.Put(at, s)
	case 1:
		stamp.Write(d, at, uint64(m.UpTo(20)), m.Bytes(m.UpTo(120)))
	case 2:
		d.Power(m.Keeps(12)...)
	}
}

// P10.1: whatever lies there, from wherever, up to wherever, over some floors.
func TestOpenByModel(t *testing.T) {
	m := mixer.Mixer(101)
	var seen [5]int
	for range 600 {
		d := disk.Blank(1 + m.UpTo(12))
		for range 1 + m.UpTo(4) {
			row(&m, d)
			spoil(&m, d)
		}
		sectors := contents(d)
		for from := range d.Size() + 1 {
			for end := from; end <= d.Size(); end++ {
				for floor := range uint64(8) {
					records, room, number := modelOpen(sectors[from:end], floor)
					wantLog(t, d, from, end, floor, records, room, number)
					seen[min(len(records), 4)]++
				}
			}
		}
		if t.Failed() {
			t.Fatalf("the disk has %v", sectors)
		}
	}
	// Else what lay there would show nothing.
	if slices.Min(seen[:]) < 500 {
		t.Error("so many of 0 records, 1, 2, 3, and more:", seen)
	}
}

// P10.1, P10.2: rows of calls, each held against what the log was told before.
func TestAppendByModel(t *testing.T) {
	m := mixer.Mixer(102)
	for range 200 {
		size := m.UpTo(100)
		from := m.UpTo(size + 1)
		end := from + m.UpTo(size-from+1)
		floor := m.Next() >> (1 + m.Next()%63)
		d := disk.Blank(size)
		l, _ := open(t, d, from, end, floor)
		var done [][]byte
		room, number := end-from, floor+1
		for range 30 {
			r := m.Bytes(m.UpTo(4300) >> m.UpTo(13))
			want := ok
			switch {
			case len(r) > mostBytes:
				want = tooLong
			case (len(r)+4+inner-1)/inner > room:
				want = full
			default:
				done = append(done, r)
				room -= (len(r) + 4 + inner - 1) / inner
				number++
			}
			wantErrno(t, "Append", l.Append(r), want)
			wantState(t, l, room, number)
			if m.UpTo(3) == 0 {
				l, _ = open(t, d, from, end, floor)
			}
		}
		wantLog(t, d, from, end, floor, done, room, number)
		if t.Failed() {
			t.Fatalf("a log from %d to %d of %d", from, end, size)
		}
	}
}

// stale: bytes and records of before, whole and cut off.
func stale(m *mixer.Mixer, d *disk.Disk, greatestNumber uint64) {
	for range m.UpTo(8) {
		b := m.Bytes(m.UpTo(200))
		if m.UpTo(2) == 0 {
			b = closed(b)
		}
		stamp.Write(d, m.UpTo(d.Size()), 1+m.Next()%greatestNumber, b)
		d.Power(m.Keeps(12)...)
	}
}

// life is a log of 14 sectors over a floor, up to a crash.
type life struct {
	m     *mixer.Mixer
	d     *disk.Disk
	floor uint64
	done  [][]byte
	last  []byte // what was cut off, if something was
	cut   bool
}

func (v *life) live(t *testing.T) {
	l, records := open(t, v.d, 1, 15, v.floor)
	if len(records) != 0 {
		t.Fatalf("over all stamps there are %q", records)
	}
	v.d.Fuse(v.m.UpTo(40))
	for range v.m.UpTo(12) {
		r := v.m.Bytes(v.m.UpTo(300) >> v.m.UpTo(4))
		switch e := l.Append(r); e {
		case ok:
			v.done = append(v.done, r)
		case noPower:
			v.last, v.cut = r, true
			return
		case full:
		default:
			t.Fatal("Append:", e)
		}
	}
}

// wantRecords tells whether what was cut off is there.
func (v *life) wantRecords(t *testing.T) bool {
	t.Helper()
	_, got := open(t, v.d, 1, 15, v.floor)
	whole := v.cut && len(got) == len(v.done)+1
	want := v.done
	if whole {
		want = append(slices.Clip(want), v.last)
	}
	if !sameRecords(got, want) {
		t.Fatalf("over %d: %d records %q; want %d %q, cut off %v %q", v.floor, len(got), got, len(want), want, v.cut, v.last)
	}
	return whole
}

// P10.3: many lives on one disk, each over the stamps of those before it, and each ended by a crash.
func TestCrashes(t *testing.T) {
	m := mixer.Mixer(103)
	whole, gone, quiet := 0, 0, 0
	for range 3000 {
		d := disk.Blank(16)
		stale(&m, d, 1+m.Next()>>(8+m.Next()%56))
		first, last := contents(d)[0], contents(d)[15]
		for range 5 {
			top, _ := stamp.Top(d, 1, 15)
			v := life{m: &m, d: d, floor: top + m.Next()%3}
			v.live(t)
			d.Power(m.Keeps(12)...)
			there := v.wantRecords(t)
			if v.wantRecords(t) != there {
				t.Fatal("opened again without anything between, it is another one")
			}
			switch {
			case there:
				whole++
			case v.cut:
				gone++
			default:
				quiet++
			}
		}
		if s := contents(d); s[0] != first || s[15] != last {
			t.Fatal("a sector outside was written")
		}
	}
	// Else the crashes above would show nothing.
	if min(whole, gone, quiet) < 500 {
		t.Error("whole:", whole, "gone:", gone, "not cut off:", quiet)
	}
}

// P10.3: of a record of two sectors, each pair of how many bytes come in, over what was there, at stamps whose bytes carry.
func TestCutOffEverywhere(t *testing.T) {
	for _, floor := range []uint64{1, 0xfe, 0xff, 0x0100, 0xffff, 0xfffffe} {
		for old := range 4 {
			for first := range sectorSize + 1 {
				for second := range sectorSize + 1 {
					d := disk.Blank(4)
					under(t, d, old, floor)
					cutOff(t, d, floor, first, second)
				}
			}
		}
	}
}

// under: what lay there before, with stamps up to the floor.
func under(t *testing.T, d *disk.Disk, old int, floor uint64) {
	t.Helper()
	switch old {
	case 1:
		lay(t, d, 1, floor, bytes.Repeat([]byte{'o'}, 60))
	case 2:
		lay(t, d, 1, 1, []byte("one"))
		lay(t, d, 2, floor, []byte("two"))
		lay(t, d, 3, floor, []byte("three"))
	case 3:
		lay(t, d, 0, 1, counted(200))
	}
}

func cutOff(t *testing.T, d *disk.Disk, floor uint64, first, second int) {
	t.Helper()
	l, _ := open(t, d, 0, 4, floor)
	add(t, l, []byte("a"))
	d.Fuse(2)
	wantErrno(t, "Append", l.Append(counted(60)), noPower)
	d.Power(first, second)
	for range 2 {
		_, got := open(t, d, 0, 4, floor)
		whole := sameRecords(got, [][]byte{[]byte("a"), counted(60)})
		if !whole && (first == sectorSize && second == sectorSize || !sameRecords(got, texts("a"))) {
			t.Fatalf("%d and %d bytes over %d: %q", first, second, floor, got)
		}
	}
}

package log_test

import (
	"bytes"
	"encoding/binary"
	"hash/crc32"
	"math"
	"slices"
	"testing"

	"falsework/api"
	"falsework/disk"
	"falsework/log"
	"falsework/stamp"
)

// The chapter's numbers, as numbers of their own.
const (
	ok         = api.Errno(0)
	noSector   = api.Errno(81)
	noPower    = api.Errno(82)
	tooLong    = api.Errno(101)
	full       = api.Errno(102)
	inner      = 53
	sectorSize = 64
	mostBytes  = 4096
	mostNeed   = 78
	least      = math.MinInt
	greatest   = math.MaxInt
	lastStamp  = uint64(math.MaxUint64)
)

// The sections Errors and Limits: callers may hold the numbers themselves against an answer.
func TestNumbers(t *testing.T) {
	if api.ErrLong != tooLong || api.ErrFull != full || api.ErrSector != noSector || api.ErrPower != noPower {
		t.Error("errors:", api.ErrLong, api.ErrFull, api.ErrSector, api.ErrPower)
	}
	if api.MaxRecord != mostBytes {
		t.Error("limit:", api.MaxRecord)
	}
}

// counted: so many bytes, none of them 0, and no two sectors full of them the same.
func counted(n int) []byte {
	b := make([]byte, n)
	for i := range b {
		b[i] = byte(1 + (i+i/251)%255)
	}
	return b
}

// closed is layer 7's Close, as the library has it.
func closed(record []byte) []byte {
	return binary.LittleEndian.AppendUint32(slices.Clone(record), crc32.ChecksumIEEE(record))
}

func wantErrno(t *testing.T, what string, got, want api.Errno) {
	t.Helper()
	if got != want {
		t.Errorf("%s: %d; want %d", what, got, want)
	}
}

// lay puts a record there, flushed, with a stamp of the test's own choice.
func lay(t *testing.T, d *disk.Disk, at int, number uint64, record []byte) {
	t.Helper()
	wantErrno(t, "Write", stamp.Write(d, at, number, closed(record)), ok)
	wantErrno(t, "Flush", d.Flush(), ok)
}

func open(t *testing.T, d *disk.Disk, from, end int, floor uint64) (*log.Log, [][]byte) {
	t.Helper()
	l, records, e := log.Open(d, from, end, floor)
	if e != ok || l == nil {
		t.Fatalf("Open from %d to %d over %d: %d", from, end, floor, e)
	}
	return l, records
}

func sameRecords(a, b [][]byte) bool { return slices.EqualFunc(a, b, bytes.Equal) }

// wantLog: what Open tells of these sectors, and what the log does.
func wantLog(t *testing.T, d *disk.Disk, from, end int, floor uint64, records [][]byte, room int, number uint64) {
	t.Helper()
	l, got := open(t, d, from, end, floor)
	if !sameRecords(got, records) {
		t.Errorf("Open from %d to %d over %d: %d records %q; want %d %q", from, end, floor, len(got), got, len(records), records)
	}
	wantState(t, l, room, number)
}

func wantState(t *testing.T, l *log.Log, room int, number uint64) {
	t.Helper()
	if l.Room() != room || l.Stamp() != number {
		t.Errorf("Room %d, Stamp %d; want %d, %d", l.Room(), l.Stamp(), room, number)
	}
}

func add(t *testing.T, l *log.Log, records ...[]byte) {
	t.Helper()
	for _, r := range records {
		wantErrno(t, "Append", l.Append(r), ok)
	}
}

// contents: what each sector has.
func contents(d *disk.Disk) []api.Sector {
	sectors := make([]api.Sector, d.Size())
	for at := range sectors {
		sectors[at], _ = d.Get(at)
	}
	return sectors
}

func texts(l ...string) [][]byte {
	var records [][]byte
	for _, s := range l {
		records = append(records, []byte(s))
	}
	return records
}

// P10.2
func TestNeed(t *testing.T) {
	for _, c := range []struct{ n, want int }{
		{least, 0}, {least + 4, 0}, {-1 << 32, 0}, {-5, 0}, {-4, 0}, {-3, 0}, {-1, 0},
		{0, 1}, {1, 1}, {48, 1}, {49, 1}, {50, 2}, {53, 2}, {102, 2}, {103, 3}, {4076, 77}, {4077, 77}, {4078, 78}, {4095, 78}, {4096, 78},
		{4097, 0}, {4098, 0}, {13511, 0}, {13512, 0}, {65536, 0}, {1 << 32, 0}, {1<<32 + 1, 0},
		{greatest - 4, 0}, {greatest - 3, 0}, {greatest - 1, 0}, {greatest, 0},
	} {
		if got := log.Need(c.n); got != c.want {
			t.Errorf("Need of %d is %d; want %d", c.n, got, c.want)
		}
	}
	many := 1
	for n := range mostBytes + 1 {
		if n+4 > many*inner {
			many++
		}
		if got := log.Need(n); got != many {
			t.Errorf("Need of %d is %d; want %d", n, got, many)
		}
	}
	if many != mostNeed {
		t.Error("the greatest need is", many)
	}
}

// P10.1: sectors that there are not.
func TestOpenErrSector(t *testing.T) {
	for _, size := range []int{0, 8} {
		d := disk.Blank(size)
		for _, c := range [][2]int{
			{-1, size}, {-1, -1}, {-1, 0}, {-2, -1}, {least, size}, {least, least}, {least, greatest}, {-1, size + 1},
			{0, -1}, {1, 0}, {size, size - 1}, {size + 1, size}, {size + 2, size + 1}, {greatest, size}, {greatest, least}, {0, least},
			{0, size + 1}, {size, size + 1}, {size + 1, size + 1}, {size + 1, size + 2}, {0, greatest}, {greatest, greatest},
			{greatest - 1, greatest}, {0, 1 << 32}, {1 << 32, 1 << 32},
		} {
			for _, floor := range []uint64{0, 7, lastStamp} {
				l, records, e := log.Open(d, c[0], c[1], floor)
				if l != nil || len(records) != 0 || e != noSector {
					t.Errorf("Open from %d to %d of %d: %v, %q, %d", c[0], c[1], size, l, records, e)
				}
			}
		}
	}
}

// P10.1: each pair of sectors that can be; of none there are no records, and no room.
func TestOpenWherever(t *testing.T) {
	for size := range 9 {
		d := disk.Blank(size)
		for from := range size + 1 {
			for end := from; end <= size; end++ {
				wantLog(t, d, from, end, 0, nil, end-from, 1)
				wantLog(t, d, from, end, 41, nil, end-from, 42)
			}
		}
	}
	wantLog(t, disk.Blank(2048), 0, 2048, 0, nil, 2048, 1)
}

// The chapter's example.
func TestExample(t *testing.T) {
	d := disk.Blank(3)
	l, _ := open(t, d, 0, 3, 0)
	add(t, l, []byte("ab"))
	wantState(t, l, 2, 2)
	wantLog(t, d, 0, 3, 0, texts("ab"), 2, 2)
}

// P10.2: each byte of a record, and no byte beside it.
func TestLayout(t *testing.T) {
	d := disk.Blank(9)
	l, _ := open(t, d, 2, 8, 0x0807060504030201)
	add(t, l, []byte("ab"), counted(60))
	number := func(lowest byte) []byte { return []byte{lowest, 2, 3, 4, 5, 6, 7, 8} }
	long := closed(counted(60))
	want := make([][]byte, 9)
	for at := range want {
		want[at] = make([]byte, sectorSize)
	}
	want[2] = slices.Concat([]byte{0, 1, 6, 'a', 'b', 0x6d, 0x48, 0x83, 0x9e}, make([]byte, 47), number(2))
	want[3] = slices.Concat([]byte{0, 2, 53}, long[:53], number(3))
	want[4] = slices.Concat([]byte{1, 2, 11}, long[53:], make([]byte, 42), number(3))
	for at, s := range contents(d) {
		if !bytes.Equal(s[:], want[at]) {
			t.Errorf("%d has %v; want %v", at, s, want[at])
		}
	}
	wantState(t, l, 3, 0x0807060504030204)
}

// P10.2: what was appended is flushed: a crash behind it takes nothing away, and leaves nothing on its way.
func TestAppendIsFlushed(t *testing.T) {
	d := disk.Blank(12)
	l, _ := open(t, d, 1, 12, 6)
	var done [][]byte
	room, number := 11, uint64(7)
	for _, n := range []int{0, 49, 50, 3, 102, 103} {
		add(t, l, counted(n))
		done = append(done, counted(n))
		room -= log.Need(n)
		number++
		wantState(t, l, room, number)
		if q := d.Queue(); len(q) != 0 {
			t.Error("on their way:", q)
		}
		d.Power()
		wantLog(t, d, 1, 12, 6, done, room, number)
	}
}

// P10.1, P10.2: how long a record is, at each edge; it has just the sectors that it needs.
func TestSizes(t *testing.T) {
	for _, n := range []int{0, 1, 2, 3, 4, 48, 49, 50, 51, 53, 101, 102, 103, 155, 156, 3000, 4077, 4078, 4095, 4096} {
		many := log.Need(n)
		d := disk.Blank(many + 2)
		l, _ := open(t, d, 1, many+1, 3)
		add(t, l, counted(n))
		wantState(t, l, 0, 5)
		wantLog(t, d, 1, many+1, 3, [][]byte{counted(n)}, 0, 5)
		wantLog(t, d, 1, many+2, 3, [][]byte{counted(n)}, 1, 5)

		short := disk.Blank(many + 2)
		l, _ = open(t, short, 1, many, 3)
		wantErrno(t, "Append", l.Append(counted(n)), full)
		wantState(t, l, many-1, 4)
	}
}

// P10.1, P10.2: bytes of all kinds, zeros at the end, and what looks like a record itself.
func TestBytesOfAllKinds(t *testing.T) {
	inside := closed([]byte("inside"))
	records := [][]byte{
		nil, {0}, {0, 0}, make([]byte, 49), make([]byte, 50), make([]byte, 300), bytes.Repeat([]byte{255}, 200),
		inside, closed(inside), slices.Concat([]byte{0, 1, 10}, inside, make([]byte, 43), []byte{9}), append(counted(60), 0, 0, 0), {0},
	}
	d := disk.Blank(60)
	l, _ := open(t, d, 0, 60, 0)
	add(t, l, records...)
	_, got := open(t, d, 0, 60, 0)
	if !sameRecords(got, records) {
		t.Errorf("%d records %q", len(got), got)
	}
}

// wantRefused: an Append that says no, and changes nothing.
func wantRefused(t *testing.T, d *disk.Disk, l *log.Log, n int, want api.Errno) {
	t.Helper()
	before, room, number := contents(d), l.Room(), l.Stamp()
	queue := d.Queue()
	wantErrno(t, "Append", l.Append(counted(n)), want)
	wantState(t, l, room, number)
	if !slices.Equal(contents(d), before) || !slices.Equal(d.Queue(), queue) || d.Dead() {
		t.Errorf("Append of %d bytes: on their way %v, dead %v", n, d.Queue(), d.Dead())
	}
}

// P10.2: what is too long, or has no room, changes nothing: no byte, no fuse, and no other's sectors on their way.
func TestErrLongErrFull(t *testing.T) {
	d := disk.Blank(100)
	l, _ := open(t, d, 2, 90, 4)
	add(t, l, counted(100))
	wantErrno(t, "Put", d.Put(0, api.Sector{9}), ok)
	d.Fuse(0)
	for _, n := range []int{4097, 4098, 5000, 13512, 65536, 1 << 20} {
		wantRefused(t, d, l, n, tooLong)
	}
	d.Fuse(-1)
	add(t, l, counted(4096))
	wantState(t, l, 8, 7)
	wantErrno(t, "Put", d.Put(0, api.Sector{9}), ok)
	d.Fuse(0)
	for _, n := range []int{421, 422, 1000, 4095, 4096} {
		wantRefused(t, d, l, n, full)
	}
	// Both too long, and without room: too long is named first.
	wantRefused(t, d, l, 4097, tooLong)
	d.Fuse(-1)
	add(t, l, counted(420))
	wantState(t, l, 0, 8)
	for _, n := range []int{0, 1, 49, 50, 4096} {
		wantRefused(t, d, l, n, full)
	}
	wantRefused(t, d, l, 4097, tooLong)
	wantLog(t, d, 2, 90, 4, [][]byte{counted(100), counted(4096), counted(420)}, 0, 8)
}

// P10.2: without any room at all.
func TestNoRoomAtAll(t *testing.T) {
	for _, at := range []int{0, 3, 5} {
		d := disk.Blank(5)
		l, _ := open(t, d, at, at, 0)
		for _, n := range []int{0, 1, 50, 4096} {
			wantRefused(t, d, l, n, full)
		}
		wantRefused(t, d, l, 4097, tooLong)
	}
}

// P10.2: behind one that has no room a shorter one may have it.
func TestShorterOnesBehind(t *testing.T) {
	d := disk.Blank(4)
	l, _ := open(t, d, 0, 4, 0)
	add(t, l, counted(50))
	wantErrno(t, "Append", l.Append(counted(103)), full)
	add(t, l, []byte("a"))
	wantErrno(t, "Append", l.Append(counted(50)), full)
	add(t, l, []byte("b"))
	wantErrno(t, "Append", l.Append(nil), full)
	wantLog(t, d, 0, 4, 0, [][]byte{counted(50), []byte("a"), []byte("b")}, 0, 4)
}

// P10.2: each sector is one act and the Flush is one, nothing else is any; the disk's first error is told.
func TestAppendActs(t *testing.T) {
	for _, n := range []int{0, 49, 50, 200, 4096} {
		many := log.Need(n)
		for acts := range many + 3 {
			d := disk.Blank(many + 3)
			l, _ := open(t, d, 1, many+2, 0)
			add(t, l, []byte("first"))
			d.Fuse(acts)
			if acts > many {
				wantErrno(t, "Append", l.Append(counted(n)), ok)
				wantState(t, l, 0, 3)
				for range acts - many - 1 {
					wantErrno(t, "an act that is left", d.Flush(), ok)
				}
				wantErrno(t, "an act too many", d.Flush(), noPower)
				d.Power()
				wantLog(t, d, 1, many+2, 0, [][]byte{[]byte("first"), counted(n)}, 0, 3)
				continue
			}
			wantErrno(t, "Append", l.Append(counted(n)), noPower)
			if !d.Dead() || len(d.Queue()) != acts {
				t.Errorf("%d acts: dead %v, %v on their way", acts, d.Dead(), d.Queue())
			}
			d.Power()
			wantLog(t, d, 1, many+2, 0, texts("first"), many, 2)
		}
	}
}

// P10.2: of a dead disk, too, what can't be is told first.
func TestAppendOnADeadDisk(t *testing.T) {
	d := disk.Blank(2)
	l, _ := open(t, d, 0, 2, 0)
	d.Fuse(0)
	wantErrno(t, "Flush", d.Flush(), noPower)
	wantErrno(t, "too long", l.Append(counted(4097)), tooLong)
	wantErrno(t, "no room", l.Append(counted(103)), full)
	wantState(t, l, 2, 1)
	wantErrno(t, "no power", l.Append(nil), noPower)
}

// P10.1: to open is no act, and changes nothing; a dead disk is opened all the same, and what is on its way counts.
func TestOpenIsNoAct(t *testing.T) {
	d := disk.Blank(6)
	lay(t, d, 1, 5, []byte("a"))
	wantErrno(t, "Write", stamp.Write(d, 2, 7, closed(counted(60))), ok)
	before := contents(d)
	d.Fuse(0)
	for range 3 {
		wantLog(t, d, 1, 6, 4, [][]byte{[]byte("a"), counted(60)}, 2, 8)
		if d.Dead() || !slices.Equal(d.Queue(), []int{2, 3}) || !slices.Equal(contents(d), before) {
			t.Error("dead:", d.Dead(), "on their way:", d.Queue())
		}
	}
	wantErrno(t, "Flush", d.Flush(), noPower)
	wantLog(t, d, 1, 6, 4, [][]byte{[]byte("a"), counted(60)}, 2, 8)
	d.Power()
	wantLog(t, d, 1, 6, 4, texts("a"), 4, 6)
}

// P10.1: each stamp above the one before it, the first one above the floor.
func TestStampsRise(t *testing.T) {
	for _, c := range []struct {
		floor   uint64
		numbers []uint64
		records int
		number  uint64
	}{
		{0, []uint64{1}, 1, 2},
		{1, []uint64{1}, 0, 2},
		{2, []uint64{1}, 0, 3},
		{0, []uint64{900}, 1, 901},
		{899, []uint64{900}, 1, 901},
		{900, []uint64{900}, 0, 901},
		{901, []uint64{900}, 0, 902},
		{0, []uint64{1, 2, 3}, 3, 4},
		{0, []uint64{1, 3, 1000}, 3, 1001},
		{0, []uint64{1, 1, 2}, 1, 3},
		{0, []uint64{1, 2, 2}, 2, 3},
		{0, []uint64{2, 1, 3}, 1, 4},
		{0, []uint64{9, 1, 2}, 1, 10},
		{0, []uint64{1, 9, 2}, 2, 10},
		{3, []uint64{3, 4, 5}, 0, 6},
		{3, []uint64{4, 3, 5}, 1, 6},
		{3, []uint64{4, 2, 5}, 1, 6},
		{3, []uint64{5, 4, 6}, 1, 7},
		{3, []uint64{4, 5, 3}, 2, 6},
		{3, []uint64{1, 2, 3}, 0, 4},
		{0xff, []uint64{0x100, 0x1ff, 0x200}, 3, 0x201},
		{0xff, []uint64{0x100, 0x0201, 0x0102}, 2, 0x202},
		{1<<63 - 1, []uint64{1 << 63, 1<<63 + 1}, 2, 1<<63 + 2},
		{1 << 63, []uint64{1 << 63, 1<<63 + 1}, 0, 1<<63 + 2},
		{1 << 62, []uint64{1 << 63, 1}, 1, 1<<63 + 1},
		{lastStamp - 2, []uint64{lastStamp - 1}, 1, lastStamp},
		{lastStamp - 1, []uint64{lastStamp - 1}, 0, lastStamp},
		{lastStamp - 1, nil, 0, lastStamp},
	} {
		// Records of two sectors and of one, in turn.
		d := disk.Blank(8)
		at := 1
		var records [][]byte
		room := 6
		for i, number := range c.numbers {
			r := bytes.Repeat([]byte{byte('a' + i)}, 50-i%2)
			lay(t, d, at, number, r)
			at += log.Need(len(r))
			if i < c.records {
				records = append(records, r)
				room = 7 - at
			}
		}
		wantLog(t, d, 1, 7, c.floor, records, room, c.number)
	}
}

// P10.1: right behind one another, from the first sector on: one sector between, or before them, ends it.
func TestNothingBetween(t *testing.T) {
	d := disk.Blank(9)
	lay(t, d, 1, 1, []byte("a"))
	lay(t, d, 2, 2, counted(50))
	lay(t, d, 5, 3, []byte("c"))
	lay(t, d, 6, 4, []byte("d"))
	wantLog(t, d, 0, 9, 0, nil, 9, 5)
	wantLog(t, d, 1, 9, 0, [][]byte{[]byte("a"), counted(50)}, 5, 5)
	wantLog(t, d, 2, 9, 0, [][]byte{counted(50)}, 5, 5)
	wantLog(t, d, 3, 9, 0, nil, 6, 5)
	wantLog(t, d, 4, 9, 0, nil, 5, 5)
	wantLog(t, d, 5, 9, 0, texts("c", "d"), 2, 5)
	lay(t, d, 4, 1, []byte("low"))
	wantLog(t, d, 1, 9, 0, [][]byte{[]byte("a"), counted(50)}, 5, 5)
	lay(t, d, 4, 3, []byte("b"))
	wantLog(t, d, 1, 9, 0, [][]byte{[]byte("a"), counted(50), []byte("b")}, 4, 5)
}

// P10.1: nothing of a record may lie at the end or behind it, and Top is that of the log's own sectors.
func TestOpenRange(t *testing.T) {
	d := disk.Blank(10)
	lay(t, d, 0, 90, []byte("before"))
	lay(t, d, 1, 10, []byte("a"))
	lay(t, d, 2, 11, counted(110))
	lay(t, d, 5, 12, []byte("c"))
	lay(t, d, 9, 80, []byte("behind"))
	for _, c := range []struct {
		end, records, room int
		number             uint64
	}{
		{1, 0, 0, 6}, {2, 1, 0, 11}, {3, 1, 1, 12}, {4, 1, 2, 12}, {5, 2, 0, 12}, {6, 3, 0, 13}, {7, 3, 1, 13}, {9, 3, 3, 13}, {10, 3, 4, 81},
	} {
		all := [][]byte{[]byte("a"), counted(110), []byte("c")}
		wantLog(t, d, 1, c.end, 5, all[:c.records], c.room, c.number)
	}
	wantLog(t, d, 0, 10, 5, texts("before"), 9, 91)
	wantLog(t, d, 2, 9, 10, [][]byte{counted(110), []byte("c")}, 3, 13)
	wantLog(t, d, 2, 9, 11, nil, 7, 13)
	wantLog(t, d, 2, 9, 12, nil, 7, 13)
	wantLog(t, d, 2, 9, 13, nil, 7, 14)
}

// P10.1: the stamps of sectors that are no records count too, wherever they lie.
func TestTopOfWhatIsNoRecord(t *testing.T) {
	for at := range 6 {
		d := disk.Blank(6)
		lay(t, d, 0, 3, []byte("a"))
		lay(t, d, 1, 4, []byte("b"))
		s, _ := d.Get(at)
		s[0] = 255
		s[57] = 2
		wantErrno(t, "Put", d.Put(at, s), ok)
		number := uint64(s[56]) + 0x0200
		records := texts("a", "b")[:min(at, 2)]
		wantLog(t, d, 0, 6, 2, records, 6-len(records), number+1)
		wantLog(t, d, 0, 6, number+7, nil, 6, number+8)
	}
}

// P10.1: bytes that aren't a Close are no record, and nothing behind them is one.
func TestWhatIsNoClose(t *testing.T) {
	other := closed([]byte("other"))
	other[8] ^= 1
	for _, b := range [][]byte{nil, {0}, {0, 0, 0}, {0, 0, 0, 1}, {1, 0, 0, 0}, []byte("abc"), other, counted(49), counted(60), append(closed([]byte("x")), 0)} {
		d := disk.Blank(8)
		lay(t, d, 0, 1, []byte("a"))
		wantErrno(t, "Write", stamp.Write(d, 1, 2, b), ok)
		lay(t, d, 1+stamp.Span(len(b)), 3, []byte("b"))
		wantLog(t, d, 0, 8, 0, texts("a"), 7, 4)
	}
	d := disk.Blank(2)
	wantErrno(t, "Write", stamp.Write(d, 0, 1, make([]byte, 4)), ok)
	wantLog(t, d, 0, 2, 0, [][]byte{nil}, 1, 2)
}

// P10.1: whichever bit of a record is another one, it is no record; only the stamp may be another one above that before it.
func TestOtherBits(t *testing.T) {
	for _, n := range []int{0, 10, 49, 70, 110} {
		many := log.Need(n)
		for place := 1; place <= many; place++ {
			for bit := range 8 * sectorSize {
				d := disk.Blank(many + 2)
				lay(t, d, 0, 1, []byte("a"))
				lay(t, d, 1, 2, counted(n))
				lay(t, d, many+1, lastStamp-1, []byte("b"))
				s, _ := d.Get(place)
				s[bit/8] ^= 1 << (bit % 8)
				wantErrno(t, "Put", d.Put(place, s), ok)
				want := texts("a")
				// Of 2 one bit turned is 0, or above 2: a record of one sector, then, with that stamp.
				if bit/8 >= 56 && many == 1 && bit != 8*56+1 {
					want = [][]byte{[]byte("a"), counted(n), []byte("b")}
				}
				if _, got := open(t, d, 0, many+2, 0); !sameRecords(got, want) {
					t.Fatalf("bit %d of sector %d of %d bytes: %q", bit, place, n, got)
				}
			}
		}
	}
}

// P10.1: how long what stands is isn't asked: a record is whatever stands as a Close.
func TestLongerThanAppended(t *testing.T) {
	for _, n := range []int{4096, 4097, 5000, 13511} {
		d := disk.Blank(300)
		lay(t, d, 2, 5, counted(n))
		many := stamp.Span(n + 4)
		lay(t, d, 2+many, 6, []byte("b"))
		wantLog(t, d, 2, 300, 4, [][]byte{counted(n), []byte("b")}, 297-many, 7)
	}
}

// P10.1, P10.2: a log that is opened again goes on behind what it has.
func TestGoesOn(t *testing.T) {
	d := disk.Blank(40)
	var done [][]byte
	room, number := 35, uint64(101)
	for i := range 12 {
		l, records := open(t, d, 3, 38, 100)
		if !sameRecords(records, done) {
			t.Fatalf("opened for the %d-th time: %q", i, records)
		}
		wantState(t, l, room, number)
		for j := range 1 + i%2 {
			r := counted(i*9 + j)
			add(t, l, r)
			done = append(done, r)
			room -= log.Need(len(r))
			number++
		}
		wantState(t, l, room, number)
	}
}

// P10.1, P10.2: over what a log with a lower floor has, a new one has nothing but its own.
func TestOverStaleRecords(t *testing.T) {
	d := disk.Blank(20)
	l, _ := open(t, d, 0, 20, 0)
	for i := range 10 {
		add(t, l, counted(40+2*i))
	}
	floor := l.Stamp() - 1
	l, records := open(t, d, 0, 20, floor)
	if len(records) != 0 {
		t.Errorf("%q", records)
	}
	wantState(t, l, 20, floor+1)
	var done [][]byte
	room := 20
	for i := range 8 {
		r := bytes.Repeat([]byte{byte('a' + i)}, 60*i%130)
		add(t, l, r)
		done = append(done, r)
		room -= log.Need(len(r))
		wantLog(t, d, 0, 20, floor, done, room, floor+uint64(i)+2)
	}
}

// P10.1, P10.2: logs beside one another on a disk have nothing to do with one another.
func TestTwoLogs(t *testing.T) {
	d := disk.Blank(12)
	a, _ := open(t, d, 1, 6, 0)
	b, _ := open(t, d, 6, 11, 50)
	add(t, a, []byte("a"), counted(60))
	add(t, b, counted(70), []byte("b"))
	wantErrno(t, "Append", a.Append(counted(103)), full)
	add(t, a, []byte("c"))
	add(t, b, []byte("d"))
	wantState(t, a, 1, 4)
	wantState(t, b, 1, 54)
	wantLog(t, d, 1, 6, 0, [][]byte{[]byte("a"), counted(60), []byte("c")}, 1, 4)
	wantLog(t, d, 6, 11, 50, [][]byte{counted(70), []byte("b"), []byte("d")}, 1, 54)
	all := contents(d)
	if all[0] != (api.Sector{}) || all[11] != (api.Sector{}) {
		t.Error("sectors outside were written")
	}
}

// P10.2: the greatest stamps that are promised, and P1 of those that aren't.
func TestGreatestStamps(t *testing.T) {
	d := disk.Blank(4)
	l, _ := open(t, d, 0, 4, lastStamp-2)
	add(t, l, []byte("a"))
	wantState(t, l, 3, lastStamp)
	wantLog(t, d, 0, 4, lastStamp-2, texts("a"), 3, lastStamp)
	add(t, l, []byte("b"))
	for _, floor := range []uint64{0, 1, lastStamp - 2, lastStamp - 1, lastStamp} {
		l, _, _ := log.Open(d, 0, 4, floor)
		for range 6 {
			l.Append([]byte("c"))
			l.Room()
			l.Stamp()
		}
	}
}

// P1: a log of which nothing is promised any more still answers.
func TestBehindAnError(t *testing.T) {
	for acts := range 4 {
		d := disk.Blank(6)
		l, _ := open(t, d, 0, 6, 0)
		d.Fuse(acts)
		for range 9 {
			l.Append(counted(60))
			l.Room()
			l.Stamp()
		}
		d.Power(3, 64)
		for range 9 {
			l.Append(counted(60))
		}
		log.Open(d, 0, 6, 0)
	}
}

// The rules of memory: nothing handed in is kept or written on, and answers share nothing.
func TestMemory(t *testing.T) {
	d := disk.Blank(12)
	l, _ := open(t, d, 0, 12, 0)
	room := counted(200)
	add(t, l, room[10:60:70], room[60:180])
	if !bytes.Equal(room, counted(200)) {
		t.Error("Append wrote on what it was handed")
	}
	clear(room)
	want := [][]byte{counted(200)[10:60], counted(200)[60:180]}
	_, one := open(t, d, 0, 12, 0)
	_, other := open(t, d, 0, 12, 0)
	spare := one[0][:cap(one[0])]
	for i := range spare {
		spare[i] = 0
	}
	if !bytes.Equal(one[1], want[1]) || !sameRecords(other, want) {
		t.Error("two answers share memory")
	}
	other[1] = nil
	wantLog(t, d, 0, 12, 0, want, 12-log.Need(50)-log.Need(120), 3)
}

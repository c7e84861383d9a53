package journal_test

import (
	"bytes"
	"encoding/binary"
	"hash/crc32"
	"math"
	"slices"
	"testing"

	"falsework/api"
	"falsework/disk"
	"falsework/journal"
	"falsework/slot"
	"falsework/stamp"
)

// The chapter's numbers, as numbers of their own.
const (
	ok         = api.Errno(0)
	noPower    = api.Errno(82)
	tooLong    = api.Errno(101)
	full       = api.Errno(102)
	noSlot     = api.Errno(111)
	noJournal  = api.Errno(121)
	inner      = 53
	sectorSize = 64
	mostSize   = 255
	mostState  = 12288
	mostRecord = 4096
	mostFloor  = uint64(1) << 60
	least      = math.MinInt
	greatest   = math.MaxInt
)

// The sections Errors and Limits: callers may hold the numbers themselves against an answer.
func TestNumbers(t *testing.T) {
	if api.ErrJournal != noJournal || api.ErrSlot != noSlot || api.ErrPower != noPower || api.ErrLong != tooLong || api.ErrFull != full {
		t.Error("errors:", api.ErrJournal, api.ErrSlot, api.ErrPower, api.ErrLong, api.ErrFull)
	}
	if api.MaxState != mostState || api.MaxSpan != mostSize || api.MaxRecord != mostRecord {
		t.Error("limits:", api.MaxState, api.MaxSpan, api.MaxRecord)
	}
}

// counted: so many bytes, none of them 0, and no two sectors full of them the same.
func counted(n int) []byte {
	b := make([]byte, n)
	for i := range b {
		b[i] = byte(1 + (i+i/251)%255)
	}
	return b
}

// closed is layer 7's Close, as the library has it.
func closed(b []byte) []byte {
	return binary.LittleEndian.AppendUint32(slices.Clone(b), crc32.ChecksumIEEE(b))
}

// spanOf: how many sectors bytes have, with their sum, counted one by one.
func spanOf(n int) int {
	many := 1
	for n+4 > many*inner {
		many++
	}
	return many
}

// numbered is layer 6's Num of a floor, as the library has it, and a state behind it.
func numbered(floor uint64, state []byte) []byte {
	return append(binary.AppendUvarint(nil, floor), state...)
}

func texts(l ...string) [][]byte {
	var records [][]byte
	for _, s := range l {
		records = append(records, []byte(s))
	}
	return records
}

func sameRecords(a, b [][]byte) bool { return slices.EqualFunc(a, b, bytes.Equal) }

func wantErrno(t *testing.T, what string, got, want api.Errno) {
	t.Helper()
	if got != want {
		t.Errorf("%s: %d; want %d", what, got, want)
	}
}

// lay puts bytes there, flushed, with a stamp of the test's own choice.
func lay(t *testing.T, d *disk.Disk, at int, number uint64, b []byte) {
	t.Helper()
	wantErrno(t, "stamp.Write", stamp.Write(d, at, number, b), ok)
	wantErrno(t, "Flush", d.Flush(), ok)
}

// number gives a sector a stamp, and bytes that stand for nothing.
func number(t *testing.T, d *disk.Disk, at int, n uint64) {
	t.Helper()
	s := api.Sector(slices.Concat(bytes.Repeat([]byte{255}, 56), binary.LittleEndian.AppendUint64(nil, n)))
	wantErrno(t, "Put", d.Put(at, s), ok)
	wantErrno(t, "Flush", d.Flush(), ok)
}

// count makes a content what counts.
func count(t *testing.T, d *disk.Disk, size int, content []byte) {
	t.Helper()
	if _, e := slot.Write(d, 0, size, content); e != ok {
		t.Fatalf("slot.Write of %d bytes: %d", len(content), e)
	}
}

// wantCounts: what counts is the content of this floor and state, byte for byte.
func wantCounts(t *testing.T, d *disk.Disk, size int, floor uint64, state []byte) {
	t.Helper()
	if c, _, e := slot.Read(d, 0, size); !bytes.Equal(c, numbered(floor, state)) || e != ok {
		t.Errorf("what counts is %+q, %d; want %d and %+q", c, e, floor, state)
	}
}

func format(t *testing.T, d *disk.Disk, size int, state []byte) *journal.Journal {
	t.Helper()
	j, e := journal.Format(d, size, state)
	if j == nil || e != ok {
		t.Fatalf("Format of %d on %d: %d", size, d.Size(), e)
	}
	return j
}

// open: what is there, as it is wanted, and not ready.
func open(t *testing.T, d *disk.Disk, size int, state []byte, records [][]byte) *journal.Journal {
	t.Helper()
	j, s, l, e := journal.Open(d, size)
	if j == nil || e != ok {
		t.Fatalf("Open of %d on %d: %d", size, d.Size(), e)
	}
	if !bytes.Equal(s, state) || !sameRecords(l, records) {
		t.Errorf("Open: %+q and %d records %+q; want %+q and %d %+q", s, len(l), l, state, len(records), records)
	}
	wantNotReady(t, j)
	return j
}

func wantNotReady(t *testing.T, j *journal.Journal) {
	t.Helper()
	if j.Ready() || j.Room() != 0 {
		t.Errorf("Ready %v, Room %d; want a journal that isn't ready", j.Ready(), j.Room())
	}
	for _, n := range []int{0, 10, mostRecord, mostRecord + 1} {
		wantErrno(t, "Append to one that isn't ready", j.Append(make([]byte, n)), noJournal)
	}
}

func wantReady(t *testing.T, j *journal.Journal, room int) {
	t.Helper()
	if !j.Ready() || j.Room() != room {
		t.Errorf("Ready %v, Room %d; want true, %d", j.Ready(), j.Room(), room)
	}
}

// wantRefused: of what can't be opened nothing is told.
func wantRefused(t *testing.T, d *disk.Disk, size int, want api.Errno) {
	t.Helper()
	if j, s, l, e := journal.Open(d, size); j != nil || len(s) != 0 || len(l) != 0 || e != want {
		t.Errorf("Open of %d on %d: %v, %+q, %+q, %d; want %d", size, d.Size(), j, s, l, e, want)
	}
}

func wantNotFormatted(t *testing.T, d *disk.Disk, size, n int, want api.Errno) {
	t.Helper()
	if j, e := journal.Format(d, size, make([]byte, n)); j != nil || e != want {
		t.Errorf("Format of %d on %d, of %d bytes: %v, %d; want %d", size, d.Size(), n, j, e, want)
	}
}

func add(t *testing.T, j *journal.Journal, records ...[]byte) {
	t.Helper()
	for _, r := range records {
		wantErrno(t, "Append", j.Append(r), ok)
	}
}

func compact(t *testing.T, j *journal.Journal, state []byte, room int) {
	t.Helper()
	wantErrno(t, "Compact", j.Compact(state), ok)
	wantReady(t, j, room)
}

// contents: what each sector has.
func contents(d *disk.Disk) []api.Sector {
	sectors := make([]api.Sector, d.Size())
	for at := range sectors {
		sectors[at], _ = d.Get(at)
	}
	return sectors
}

// wantUntouched: what is done changes no sector, leaves nothing on its way but what was, and is no act.
func wantUntouched(t *testing.T, d *disk.Disk, do func()) {
	t.Helper()
	before, queue := contents(d), d.Queue()
	d.Fuse(0)
	do()
	if d.Dead() || !slices.Equal(contents(d), before) || !slices.Equal(d.Queue(), queue) {
		t.Errorf("dead: %v, on their way: %v; before: %v", d.Dead(), d.Queue(), queue)
	}
	d.Fuse(-1)
}

// The chapter's example.
func TestExample(t *testing.T) {
	d := disk.Blank(10)
	add(t, format(t, d, 3, []byte("ab")), []byte("c"))
	open(t, d, 3, []byte("ab"), texts("c"))
}

// P12.1, P12.4: sizes and disks that can't be; for Open, whatever lies there.
func TestSizesThatCantBe(t *testing.T) {
	for _, disksize := range []int{0, 1, 2, 3, 4, 7, 509, 510, 511, 512, 2048} {
		blank, d := disk.Blank(disksize), disk.Blank(disksize)
		// Each sector is a content of its own, and a record.
		for at := range disksize {
			lay(t, d, at, uint64(at+1), closed(numbered(0, []byte("x"))))
		}
		for _, size := range []int{
			least, least + 1, least / 2, -1 << 32, -255, -2, -1, 0,
			256, 257, 511, 1 << 31, 1 << 32, 1<<32 + 1, 1 << 62, 1<<62 + 1, greatest / 2, greatest - 1, greatest,
			(disksize + 1) / 2, disksize/2 + 1, disksize, disksize + 1,
		} {
			if size >= 1 && size <= mostSize && disksize >= 2*size+1 {
				continue // it can be, on a disk of this size
			}
			wantUntouched(t, d, func() { wantRefused(t, d, size, noJournal) })
			wantUntouched(t, blank, func() {
				wantRefused(t, blank, size, noJournal)
				for _, n := range []int{0, 2, mostState, mostState + 1} {
					wantNotFormatted(t, blank, size, n, noJournal)
				}
			})
		}
	}
}

// P12.1, P12.4: all sizes that can be, on the smallest disk of each, and on greater ones.
func TestSizesThatCanBe(t *testing.T) {
	for size := 1; size <= mostSize; size++ {
		rooms := []int{1, 2, 5}
		if size%127 == 1 {
			rooms = append(rooms, 2048-2*size)
		}
		for _, room := range rooms {
			d := disk.Blank(2*size + room)
			// Nothing counts on a blank one.
			wantRefused(t, d, size, noSlot)
			j := format(t, d, size, []byte("state"))
			wantReady(t, j, room)
			add(t, j, []byte("a"))
			wantReady(t, j, room-1)
			open(t, d, size, []byte("state"), texts("a"))
		}
		wantRefused(t, disk.Blank(2*size), size, noJournal)
		wantNotFormatted(t, disk.Blank(2*size), size, 0, noJournal)
	}
}

// P12.1: what layer 11 says of the places is told, whatever the log has.
func TestNothingCounts(t *testing.T) {
	d := disk.Blank(9)
	refused := func() {
		t.Helper()
		wantUntouched(t, d, func() { wantRefused(t, d, 3, noSlot) })
	}
	refused()
	lay(t, d, 6, 1, closed([]byte("a")))
	refused()
	content := closed(numbered(0, []byte("state")))
	lay(t, d, 0, 1, content) // in the place of the even ones
	refused()
	lay(t, d, 3, 2, content) // in the place of the odd ones
	refused()
	lay(t, d, 4, 3, content) // not at its place's beginning
	refused()
	lay(t, d, 3, 3, content[:len(content)-1]) // no Close
	refused()
	lay(t, d, 3, 3, content)
	open(t, d, 3, []byte("state"), texts("a"))
}

// P12.1: what counts begins with a number that a floor can be.
func TestNoFloor(t *testing.T) {
	high := bytes.Repeat([]byte{0x80}, 8)
	full := bytes.Repeat([]byte{0xff}, 8)
	for _, content := range [][]byte{
		{}, {0x80}, {0x80, 0}, {0x80, 0x80}, {0x81, 0}, {0xff}, {0x80, 0x80, 0}, {0xff, 0xff, 0xff, 0}, high, full,
		numbered(mostFloor+1, nil), numbered(mostFloor+1, []byte("state")), numbered(2*mostFloor, nil), numbered(1<<61-1, nil), numbered(1<<62, nil), numbered(1<<63-1, nil),
		numbered(1<<63, nil), numbered(math.MaxUint64-1, nil), numbered(math.MaxUint64, nil), numbered(math.MaxUint64, []byte("state")),
		append(slices.Clone(high), 0x11), append(slices.Clone(high), 0x80), append(slices.Clone(high), 0x80, 0), append(slices.Clone(high), 0x80, 2),
		append(slices.Clone(high), 0x90, 0), append(slices.Clone(full), 0xff, 2), append(slices.Clone(full), 0xff, 0x81, 0), append(slices.Clone(full), 0xff, 0xff, 1), bytes.Repeat([]byte{0xff}, 60),
	} {
		d := disk.Blank(9)
		lay(t, d, 6, 1, closed([]byte("a")))
		// It is asked of what counts alone, not of what counted before.
		count(t, d, 3, numbered(0, []byte("before")))
		open(t, d, 3, []byte("before"), texts("a"))
		count(t, d, 3, content)
		wantUntouched(t, d, func() { wantRefused(t, d, 3, noJournal) })
		count(t, d, 3, numbered(0, []byte("behind")))
		open(t, d, 3, []byte("behind"), texts("a"))
	}
}

// P12.1: each floor that can be, of each length, and all that is behind it is the state.
func TestFloorsThatCanBe(t *testing.T) {
	floors := []uint64{0, 1, 2, 100, mostFloor - 1, mostFloor}
	for bits := 7; bits < 60; bits += 7 {
		floors = append(floors, 1<<bits-1, 1<<bits, 1<<bits+1, 1<<(bits+1))
	}
	for _, floor := range floors {
		for _, state := range [][]byte{nil, {0}, {0x80}, {0xff, 0xff}, []byte("state"), numbered(floor, nil), make([]byte, 60), counted(100)} {
			d := disk.Blank(12)
			count(t, d, 3, numbered(floor, state))
			// A record is one if its stamp is above the floor.
			if floor > 0 {
				lay(t, d, 6, floor, closed([]byte("old")))
				open(t, d, 3, state, nil)
			}
			lay(t, d, 6, floor+1, closed([]byte("a")))
			lay(t, d, 7, floor+7, closed(counted(60)))
			open(t, d, 3, state, [][]byte{[]byte("a"), counted(60)})
		}
	}
}

// P12.1: the log lies on all sectors behind the places, and on no other ones.
func TestWhereTheLogLies(t *testing.T) {
	d := disk.Blank(12)
	count(t, d, 2, numbered(3, []byte("state")))
	lay(t, d, 5, 9, closed([]byte("not the first")))
	open(t, d, 2, []byte("state"), nil)
	lay(t, d, 4, 4, closed([]byte("a")))
	lay(t, d, 5, 5, closed(counted(353)))
	open(t, d, 2, []byte("state"), [][]byte{[]byte("a"), counted(353)})
	// The same disk, with greater places: what counts is still there, and the log is another one.
	lay(t, d, 0, 2, closed(numbered(3, []byte("state"))))
	lay(t, d, 6, 4, closed([]byte("b")))
	open(t, d, 3, []byte("state"), texts("b"))
	open(t, d, 2, []byte("state"), texts("a"))
}

// P12.1: to open is no act, and changes nothing; a dead disk is opened all the same, and what is on its way counts.
func TestOpenIsNoAct(t *testing.T) {
	d := disk.Blank(10)
	add(t, format(t, d, 3, []byte("old")), []byte("a"))
	wantErrno(t, "stamp.Write", stamp.Write(d, 0, 2, closed(numbered(0, []byte("new")))), ok)
	wantErrno(t, "stamp.Write", stamp.Write(d, 7, 2, closed(counted(60))), ok)
	there := func() {
		t.Helper()
		for range 3 {
			open(t, d, 3, []byte("new"), [][]byte{[]byte("a"), counted(60)})
		}
	}
	wantUntouched(t, d, there)
	d.Fuse(0)
	wantErrno(t, "Flush", d.Flush(), noPower)
	there()
	d.Power()
	wantUntouched(t, d, func() { open(t, d, 3, []byte("old"), texts("a")) })
}

// P12.2, P12.3, P12.4: each byte of the disk.
func TestLayout(t *testing.T) {
	d := disk.Blank(11)
	number(t, d, 10, 300)
	want := contents(d)
	wantSectors := func() {
		t.Helper()
		for at, s := range contents(d) {
			if s != want[at] {
				t.Errorf("%d has %v; want %v", at, s, want[at])
			}
		}
	}
	model := func(at int, number uint64, b []byte) {
		anew := disk.Blank(spanOf(len(b)))
		stamp.Write(anew, 0, number, closed(b))
		copy(want[at:], contents(anew))
	}
	j := format(t, d, 3, []byte("ab"))
	want[3] = api.Sector(slices.Concat([]byte{0, 1, 8, 0xac, 2, 'a', 'b'}, closed([]byte{0xac, 2, 'a', 'b'})[4:], make([]byte, 45), []byte{1}, make([]byte, 7)))
	wantSectors()
	add(t, j, []byte("c"))
	want[6] = api.Sector(slices.Concat([]byte{0, 1, 5, 'c'}, closed([]byte("c"))[1:], make([]byte, 48), []byte{45, 1}, make([]byte, 6)))
	wantSectors()
	add(t, j, counted(60))
	model(7, 302, counted(60))
	wantSectors()
	compact(t, j, counted(100), 5)
	model(0, 2, numbered(302, counted(100)))
	wantSectors()
	add(t, j, []byte("d"))
	model(6, 303, []byte("d"))
	wantSectors()
	j = open(t, d, 3, counted(100), texts("d"))
	compact(t, j, nil, 5)
	model(3, 3, numbered(303, nil))
	wantSectors()
	compact(t, j, []byte("ef"), 5)
	model(0, 4, numbered(303, []byte("ef")))
	wantSectors()
}

// P12.2: the floor is what the log's last stamp was, so that no record is one any more; Compact of one that is ready, and of one that was opened.
func TestCompactTakesTheRecordsAway(t *testing.T) {
	d := disk.Blank(26)
	state := []byte("first")
	j := format(t, d, 3, state)
	floor := uint64(0)
	for i := range 200 {
		wantReady(t, j, 20)
		wantCounts(t, d, 3, floor, state)
		var records [][]byte
		room := 20
		for k := range i % 5 {
			r := counted(i*7%130 + k)
			add(t, j, r)
			records = append(records, r)
			room -= spanOf(len(r))
			wantReady(t, j, room)
			open(t, d, 3, state, records)
		}
		floor += uint64(i % 5)
		opened := open(t, d, 3, state, records)
		if i%3 == 0 {
			j = opened
		}
		state = counted(i % 40)
		compact(t, j, state, 20)
		if q := d.Queue(); len(q) != 0 {
			t.Error("on their way:", q)
		}
		d.Power()
		open(t, d, 3, state, nil)
	}
}

// P12.2, P12.4: the floor is one less than the log's stamp, which is above all that stands in the log, records or not.
func TestFloorOverWhatIsNoRecord(t *testing.T) {
	for at := 4; at < 9; at++ {
		d := disk.Blank(9)
		number(t, d, at, 70)
		if at != 4 {
			lay(t, d, 4, 60, closed([]byte("old")))
		}
		j := format(t, d, 2, []byte("state"))
		wantReady(t, j, 5)
		wantCounts(t, d, 2, 70, []byte("state"))
		open(t, d, 2, []byte("state"), nil)
		add(t, j, []byte("a"))
		number(t, d, 8, 900)
		j = open(t, d, 2, []byte("state"), texts("a"))
		compact(t, j, []byte("new"), 5)
		wantCounts(t, d, 2, 900, []byte("new"))
		add(t, j, counted(60), []byte("b"))
		open(t, d, 2, []byte("new"), [][]byte{counted(60), []byte("b")})
		compact(t, j, nil, 5)
		wantCounts(t, d, 2, 902, nil)
	}
	// A floor that is above all stamps stays.
	d := disk.Blank(9)
	count(t, d, 2, numbered(500, []byte("state")))
	lay(t, d, 4, 400, closed([]byte("old")))
	compact(t, open(t, d, 2, []byte("state"), nil), []byte("new"), 5)
	wantCounts(t, d, 2, 500, []byte("new"))
	open(t, d, 2, []byte("new"), nil)
	// What stands in the places is none of the log's.
	for range 20 {
		count(t, d, 2, numbered(3, []byte("state")))
	}
	lay(t, d, 4, 4, closed([]byte("a")))
	compact(t, open(t, d, 2, []byte("state"), texts("a")), []byte("new"), 5)
	wantCounts(t, d, 2, 4, []byte("new"))
}

// P12.2, P12.4: the longest state, and one that is too long: that is told ahead of all else, and changes nothing.
func TestMaxState(t *testing.T) {
	for _, floor := range []uint64{0, 127, 128, mostFloor} {
		d := disk.Blank(512)
		if floor > 0 {
			number(t, d, 511, floor)
		}
		wantUntouched(t, d, func() { wantNotFormatted(t, d, 255, mostState+1, noJournal) })
		j := format(t, d, 255, counted(mostState))
		wantCounts(t, d, 255, floor, counted(mostState))
		open(t, d, 255, counted(mostState), nil)
		for _, n := range []int{mostState - 1, mostState, 0} {
			compact(t, j, counted(n), 2)
			open(t, d, 255, counted(n), nil)
		}
		for _, n := range []int{mostState + 1, mostState + 2, 13505, 13515, 13516, 65536, 1 << 20} {
			wantUntouched(t, d, func() { wantErrno(t, "Compact", j.Compact(make([]byte, n)), noJournal) })
			wantReady(t, j, 2)
		}
		open(t, d, 255, nil, nil)
	}
}

// P12.2, P12.4: a state that is too long for a journal is told ahead of one that is too long for a place.
func TestTooLongForBoth(t *testing.T) {
	for _, size := range []int{1, 2, 231} {
		d := disk.Blank(2*size + 1)
		wantUntouched(t, d, func() {
			wantNotFormatted(t, d, size, mostState+1, noJournal)
			wantNotFormatted(t, d, size, mostState, noSlot)
		})
		j := format(t, d, size, nil)
		wantUntouched(t, d, func() {
			wantErrno(t, "Compact", j.Compact(make([]byte, mostState+1)), noJournal)
			wantErrno(t, "Compact", j.Compact(make([]byte, mostState)), noSlot)
		})
		wantReady(t, j, 1)
	}
}

// mostIn: how long a state may be, with this floor, in a place of so many sectors.
func mostIn(size int, floor uint64) int { return size*inner - 4 - len(numbered(floor, nil)) }

func wantNoPlace(t *testing.T, d *disk.Disk, j *journal.Journal, n int) {
	t.Helper()
	wantUntouched(t, d, func() {
		for _, more := range []int{0, 1, 2, inner} {
			wantErrno(t, "Compact", j.Compact(counted(n+more)), noSlot)
		}
	})
}

// P12.2, P12.4: a content has just the room of a place; with ErrSlot nothing has changed.
func TestPlaceEdge(t *testing.T) {
	for _, floor := range []uint64{0, 126, 127, 128, 1<<14 - 1, 1 << 14, 1<<56 - 1, 1 << 56, mostFloor - 1} {
		for _, size := range []int{1, 2, 3, 100} {
			d := disk.Blank(2*size + 4)
			if floor > 0 {
				number(t, d, 2*size+3, floor)
			}
			most := mostIn(size, floor)
			wantUntouched(t, d, func() {
				for _, n := range []int{most + 1, most + 2, most + inner, mostState} {
					wantNotFormatted(t, d, size, n, noSlot)
				}
			})
			j := format(t, d, size, counted(most))
			compact(t, j, counted(most), 4)
			wantNoPlace(t, d, j, most+1)
			wantReady(t, j, 4)
			add(t, j, []byte("a"))
			// The floor will be one more, and may have a byte more.
			next := mostIn(size, floor+1)
			opened := open(t, d, size, counted(most), texts("a"))
			wantNoPlace(t, d, opened, next+1)
			wantNotReady(t, opened)
			wantNoPlace(t, d, j, next+1)
			wantReady(t, j, 3)
			open(t, d, size, counted(most), texts("a"))
			compact(t, j, counted(next), 4)
			wantCounts(t, d, size, floor+1, counted(next))
			open(t, d, size, counted(next), nil)
		}
	}
}

// P12.2: behind an ErrSlot a journal that is ready goes on, and one that isn't may be Compacted.
func TestGoesOnBehindErrSlot(t *testing.T) {
	d := disk.Blank(7)
	j := format(t, d, 1, []byte("state"))
	add(t, j, []byte("a"))
	wantErrno(t, "Compact", j.Compact(counted(60)), noSlot)
	add(t, j, []byte("b"))
	wantErrno(t, "Compact", j.Compact(counted(60)), noSlot)
	wantReady(t, j, 3)
	j = open(t, d, 1, []byte("state"), texts("a", "b"))
	wantErrno(t, "Compact", j.Compact(counted(60)), noSlot)
	wantNotReady(t, j)
	compact(t, j, []byte("new"), 5)
	add(t, j, []byte("c"))
	open(t, d, 1, []byte("new"), texts("c"))
}

// P12.2, P12.4: no floor is above 2 to the power of 60; that is told ahead of what a place or the disk says, and changes nothing.
func TestNoFurtherFloor(t *testing.T) {
	for _, top := range []uint64{mostFloor + 1, mostFloor + 2, 2 * mostFloor, 1 << 62, 1 << 63, math.MaxUint64 - 1, math.MaxUint64} {
		d := disk.Blank(9)
		number(t, d, 6, top)
		wantUntouched(t, d, func() {
			for _, n := range []int{0, 5, 200, mostState, mostState + 1} {
				wantNotFormatted(t, d, 2, n, noJournal)
			}
		})
	}
	d := disk.Blank(9)
	number(t, d, 8, mostFloor)
	j := format(t, d, 2, []byte("old"))
	compact(t, j, []byte("state"), 5)
	wantCounts(t, d, 2, mostFloor, []byte("state"))
	noFurther := func(j *journal.Journal) {
		t.Helper()
		wantUntouched(t, d, func() {
			for _, n := range []int{0, 5, 200, mostState, mostState + 1} {
				wantErrno(t, "Compact", j.Compact(make([]byte, n)), noJournal)
			}
		})
	}
	add(t, j, []byte("a"))
	noFurther(j)
	wantReady(t, j, 4)
	add(t, j, []byte("b"))
	noFurther(j)
	wantReady(t, j, 3)
	opened := open(t, d, 2, []byte("state"), texts("a", "b"))
	noFurther(opened)
	wantNotReady(t, opened)
	open(t, d, 2, []byte("state"), texts("a", "b"))
}

// P12.3: layer 10's Append says no, and nothing has changed.
func TestErrLongErrFull(t *testing.T) {
	d := disk.Blank(100)
	j := format(t, d, 2, []byte("state"))
	refuse := func(room int, want api.Errno, sizes ...int) {
		t.Helper()
		wantUntouched(t, d, func() {
			for _, n := range sizes {
				wantErrno(t, "Append", j.Append(counted(n)), want)
			}
		})
		wantReady(t, j, room)
	}
	refuse(96, tooLong, mostRecord+1, mostRecord+2, mostState+1, 1<<20)
	add(t, j, counted(mostRecord))
	refuse(18, tooLong, mostRecord+1, 1<<20)
	refuse(18, full, 18*inner-3, mostRecord-1, mostRecord)
	add(t, j, counted(17*inner-4))
	refuse(1, full, 50, mostRecord)
	add(t, j, counted(49))
	refuse(0, full, 0, 1, mostRecord)
	refuse(0, tooLong, mostRecord+1)
	open(t, d, 2, []byte("state"), [][]byte{counted(mostRecord), counted(17*inner - 4), counted(49)})
	compact(t, j, []byte("new"), 96)
	add(t, j, nil)
	open(t, d, 2, []byte("new"), [][]byte{nil})
}

// P12.1, P12.2, P12.3: bytes of all kinds, and what looks like a content or a record itself.
func TestBytesOfAllKinds(t *testing.T) {
	inside := closed(numbered(3, []byte("inside")))
	kinds := [][]byte{
		nil, {0}, {0, 0}, {0x80}, {0x80, 0}, {0xff, 0xff, 1}, make([]byte, 49), make([]byte, 50), make([]byte, 200), bytes.Repeat([]byte{255}, 200),
		inside, closed(inside), slices.Concat([]byte{0, 1, 10}, inside, make([]byte, 40), []byte{9}), append(counted(60), 0, 0, 0),
	}
	d := disk.Blank(60)
	j := format(t, d, 8, nil)
	for _, state := range kinds {
		compact(t, j, state, 44)
		add(t, j, kinds...)
		open(t, d, 8, state, kinds)
	}
}

// P12.3, P12.5: what was answered OK is flushed: a crash behind it takes nothing away, and leaves nothing on its way.
func TestAllIsFlushed(t *testing.T) {
	d := disk.Blank(20)
	state, records := []byte("state"), [][]byte(nil)
	flushed := func() {
		t.Helper()
		if q := d.Queue(); len(q) != 0 {
			t.Error("on their way:", q)
		}
		d.Power()
		open(t, d, 3, state, records)
	}
	j := format(t, d, 3, state)
	flushed()
	for _, n := range []int{0, 49, 50, 3, 102, 103} {
		add(t, j, counted(n))
		records = append(records, counted(n))
		flushed()
	}
	state, records = counted(100), nil
	compact(t, j, state, 14)
	flushed()
}

// P12.2, P12.5: each sector is one act and the Flush is one, nothing else is any; cut off, it is done whole, or not at all.
func TestCompactActs(t *testing.T) {
	for _, n := range []int{0, 48, 49, 200, mostState} {
		many := spanOf(n + 1)
		for acts := range many + 3 {
			d := disk.Blank(2*many + 3)
			j := format(t, d, many, []byte("old"))
			j = open(t, d, many, []byte("old"), nil)
			if acts%2 == 0 {
				compact(t, j, []byte("old"), 3)
				add(t, j, []byte("a"))
				j = open(t, d, many, []byte("old"), texts("a"))
			}
			records := texts("a")[:1-acts%2]
			d.Fuse(acts)
			if acts > many {
				compact(t, j, counted(n), 3)
				for range acts - many - 1 {
					wantErrno(t, "an act that is left", d.Flush(), ok)
				}
				wantErrno(t, "an act too many", d.Flush(), noPower)
				d.Power()
				open(t, d, many, counted(n), nil)
				continue
			}
			wantErrno(t, "Compact", j.Compact(counted(n)), noPower)
			wantNotReady(t, j)
			if !d.Dead() || len(d.Queue()) != acts {
				t.Errorf("%d acts: dead %v, %v on their way", acts, d.Dead(), d.Queue())
			}
			d.Power(slices.Repeat([]int{sectorSize}, acts)...)
			if acts == many {
				open(t, d, many, counted(n), nil)
			} else {
				open(t, d, many, []byte("old"), records)
			}
		}
	}
}

// P12.3, P12.5: likewise of Append.
func TestAppendActs(t *testing.T) {
	for _, n := range []int{0, 49, 50, 200, mostRecord} {
		many := spanOf(n)
		for acts := range many + 3 {
			for kept := range 2 {
				d := disk.Blank(2 + many + 1)
				j := format(t, d, 1, []byte("state"))
				add(t, j, []byte("a"))
				d.Fuse(acts)
				whole := [][]byte{[]byte("a"), counted(n)}
				if acts > many {
					add(t, j, counted(n))
					wantReady(t, j, 0)
					for range acts - many - 1 {
						wantErrno(t, "an act that is left", d.Flush(), ok)
					}
					wantErrno(t, "an act too many", d.Flush(), noPower)
					d.Power()
					open(t, d, 1, []byte("state"), whole)
					continue
				}
				wantErrno(t, "Append", j.Append(counted(n)), noPower)
				wantNotReady(t, j)
				if !d.Dead() || len(d.Queue()) != acts {
					t.Errorf("%d acts: dead %v, %v on their way", acts, d.Dead(), d.Queue())
				}
				d.Power(slices.Repeat([]int{kept * sectorSize}, acts)...)
				wantNotReady(t, j)
				if acts == many && kept == 1 {
					open(t, d, 1, []byte("state"), whole)
				} else {
					open(t, d, 1, []byte("state"), texts("a"))
				}
			}
		}
	}
}

// P12.4, P12.5: likewise of Format.
func TestFormatActs(t *testing.T) {
	for _, n := range []int{0, 48, 49, 200} {
		many := spanOf(n + 1)
		for acts := range many + 2 {
			d := disk.Blank(2*many + 2)
			d.Fuse(acts)
			if acts > many {
				wantReady(t, format(t, d, many, counted(n)), 2)
				wantErrno(t, "an act too many", d.Flush(), noPower)
				d.Power()
				open(t, d, many, counted(n), nil)
				continue
			}
			j, e := journal.Format(d, many, counted(n))
			if j != nil || e != noPower || len(d.Queue()) != acts {
				t.Errorf("Format with %d acts: %v, %d, %v on their way", acts, j, e, d.Queue())
			}
			d.Power(slices.Repeat([]int{sectorSize}, acts)...)
			if acts == many {
				open(t, d, many, counted(n), nil)
			} else {
				wantRefused(t, d, many, noSlot)
			}
		}
	}
}

// P12.2, P12.3: of a dead disk, too, what can't be is told first.
func TestOnADeadDisk(t *testing.T) {
	d := disk.Blank(5)
	j := format(t, d, 1, []byte("state"))
	opened := open(t, d, 1, []byte("state"), nil)
	d.Fuse(0)
	wantErrno(t, "Flush", d.Flush(), noPower)
	wantErrno(t, "too long", j.Compact(make([]byte, mostState+1)), noJournal)
	wantErrno(t, "no place", j.Compact(counted(49)), noSlot)
	wantErrno(t, "too long", j.Append(counted(mostRecord+1)), tooLong)
	wantErrno(t, "no room", j.Append(counted(3*inner-3)), full)
	wantReady(t, j, 3)
	wantErrno(t, "no power", j.Append(nil), noPower)
	wantNotReady(t, j)
	wantErrno(t, "no place", opened.Compact(counted(49)), noSlot)
	wantErrno(t, "no power", opened.Compact(nil), noPower)
	wantNotReady(t, opened)
	wantNotFormatted(t, disk.Blank(2), 1, 0, noJournal)
	dead := disk.Blank(5)
	dead.Fuse(0)
	wantNotFormatted(t, dead, 3, 0, noJournal)
	wantNotFormatted(t, dead, 1, mostState+1, noJournal)
	wantNotFormatted(t, dead, 1, 49, noSlot)
	wantNotFormatted(t, dead, 1, 48, noPower)
}

// P12.4: on a disk in whose log something stands a new journal has none of it, and its first record is above all of it.
func TestFormatOverALog(t *testing.T) {
	for _, old := range []uint64{1, 7, 0xff, 0x0100, 1 << 40, mostFloor - 4} {
		d := disk.Blank(12)
		for i, n := range []int{3, 60, 0, 49} {
			lay(t, d, []int{4, 5, 7, 8}[i], old+uint64(i), closed(counted(n)))
		}
		j := format(t, d, 2, []byte("state"))
		wantCounts(t, d, 2, old+3, []byte("state"))
		wantReady(t, j, 8)
		open(t, d, 2, []byte("state"), nil)
		// They have the very sectors of the old ones.
		records := [][]byte{[]byte("one"), counted(61), nil, nil}
		for i, r := range records {
			add(t, j, r)
			open(t, d, 2, []byte("state"), records[:i+1])
		}
		wantReady(t, j, 3)
	}
}

// P12.2, P12.5: behind an Append that was cut off, the same journal may be Compacted: whatever came in of the record, it is none.
func TestCompactBehindACutOffAppend(t *testing.T) {
	for before := range 3 {
		for acts := range 3 {
			for _, keep := range [][]int{nil, {64, 64}, {64, 63}, {64, 10}, {64}, {0, 64}, {57, 64}, {56, 56}, {3, 3}} {
				d := disk.Blank(12)
				j := format(t, d, 2, []byte("old"))
				for range before {
					add(t, j, []byte("a"))
				}
				d.Fuse(acts)
				wantErrno(t, "Append", j.Append(counted(60)), noPower)
				d.Power(keep...)
				compact(t, j, []byte("new"), 8)
				open(t, d, 2, []byte("new"), nil)
				var records [][]byte
				for i := range 5 {
					add(t, j, counted(40+i))
					records = append(records, counted(40+i))
					open(t, d, 2, []byte("new"), records)
				}
			}
		}
	}
}

// The rules of memory: nothing handed in is kept or written on, and answers share nothing.
func TestMemory(t *testing.T) {
	d := disk.Blank(30)
	room := counted(300)
	j := format(t, d, 4, room[10:60:70])
	compact(t, j, room[60:180], 22)
	add(t, j, room[180:200:210], room[210:290], nil)
	if !bytes.Equal(room, counted(300)) {
		t.Error("a call wrote on what it was handed")
	}
	clear(room)
	want := counted(300)
	records := [][]byte{want[180:200], want[210:290], nil}
	opened, state, l, _ := journal.Open(d, 4)
	clear(state[:cap(state)])
	if !sameRecords(l, records) {
		t.Error("the state and the records share memory")
	}
	clear(l[0][:cap(l[0])])
	if !sameRecords(l[1:], records[1:]) {
		t.Error("two records share memory")
	}
	clear(l[1][:cap(l[1])])
	clear(l[:cap(l)])
	open(t, d, 4, want[60:180], records)
	compact(t, opened, want[:20], 22)
	open(t, d, 4, want[:20], nil)
}

// Journals on disks of their own have nothing to do with one another.
func TestTwoJournals(t *testing.T) {
	one, other := disk.Blank(9), disk.Blank(30)
	a, b := format(t, one, 2, []byte("one")), format(t, other, 7, []byte("other"))
	add(t, a, []byte("a"))
	add(t, b, []byte("b"), counted(60))
	compact(t, a, counted(100), 5)
	add(t, a, []byte("c"))
	one.Fuse(0)
	wantErrno(t, "Append", a.Append(nil), noPower)
	add(t, b, []byte("d"))
	wantReady(t, b, 12)
	open(t, one, 2, counted(100), texts("c"))
	open(t, other, 7, []byte("other"), [][]byte{[]byte("b"), counted(60), []byte("d")})
}

// useUp does all that can be done to a journal, and to what its disk has.
func useUp(d *disk.Disk, size int, j *journal.Journal) {
	for i := range 6 {
		if j != nil {
			j.Append(counted(i * 40))
			j.Compact(counted(i * 30))
			j.Room()
			j.Ready()
		}
		if opened, _, _, e := journal.Open(d, size); e == ok && i%2 == 0 {
			j = opened
		}
	}
}

// P1: where nothing else is promised, each call ends, and none panics.
func TestWhereNothingIsPromised(t *testing.T) {
	for acts := range 5 {
		// Behind a Compact that was cut off, and Formatted over what stands there.
		d := disk.Blank(9)
		j := format(t, d, 2, []byte("old"))
		add(t, j, []byte("a"))
		d.Fuse(acts)
		j.Compact(counted(60))
		useUp(d, 2, j)
		d.Power(64, 58)
		useUp(d, 2, j)
		j, _ = journal.Format(d, 2, []byte("new"))
		useUp(d, 2, j)
		j, _ = journal.Format(d, 3, counted(60))
		useUp(d, 3, j)
	}
	for _, top := range []uint64{mostFloor, mostFloor + 1, 1<<62 - 1, 1 << 62, 1<<62 + 1, 1 << 63, math.MaxUint64 - 2, math.MaxUint64 - 1, math.MaxUint64} {
		for at := range 9 {
			d := disk.Blank(9)
			j := format(t, d, 2, []byte("old"))
			add(t, j, []byte("a"))
			number(t, d, at, top)
			useUp(d, 2, j)
			d = disk.Blank(9)
			number(t, d, at, top)
			j, _ = journal.Format(d, 2, []byte("new"))
			useUp(d, 2, j)
		}
	}
}

// P12.2: behind a Compact that the power left, a journal isn't ready any more.
func TestNotReadyAnyMore(t *testing.T) {
	for acts := range 3 {
		d := disk.Blank(12)
		j := format(t, d, 3, []byte("old"))
		add(t, j, []byte("a"))
		d.Fuse(acts)
		wantErrno(t, "Compact", j.Compact(counted(60)), noPower)
		for range 3 {
			wantNotReady(t, j)
			j.Compact(nil)
		}
		d.Power()
		wantNotReady(t, j)
		open(t, d, 3, []byte("old"), texts("a"))
		// What a Compact of it answers is promised no more; only that it doesn't come back by one that is refused.
		if e := j.Compact(nil); e != ok {
			wantNotReady(t, j)
			open(t, d, 3, []byte("old"), texts("a"))
		}
	}
}

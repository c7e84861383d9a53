package slot_test

import (
	"bytes"
	"encoding/binary"
	"hash/crc32"
	"math"
	"slices"
	"testing"

	"falsework/api"
	"falsework/disk"
	"falsework/slot"
	"falsework/stamp"
)

// The chapter's numbers, as numbers of their own.
const (
	ok         = api.Errno(0)
	noPower    = api.Errno(82)
	noSlot     = api.Errno(111)
	inner      = 53
	sectorSize = 64
	mostSize   = 255
	mostBytes  = mostSize*inner - 4
	least      = math.MinInt
	greatest   = math.MaxInt
	// Above this one nothing but P1 is promised.
	mostTop = uint64(1) << 62
)

// The sections Errors and Limits: callers may hold the numbers themselves against an answer.
func TestNumbers(t *testing.T) {
	if api.ErrSlot != noSlot || api.ErrPower != noPower {
		t.Error("errors:", api.ErrSlot, api.ErrPower)
	}
	if api.MaxSpan != mostSize {
		t.Error("limit:", api.MaxSpan)
	}
}

// counted: so many bytes, none of them 0, and no two sectors full of them the same.
func counted(n int) []byte {
	b := make([]byte, n)
	for i := range b {
		b[i] = byte(1 + (i+i/251)%255)
	}
	return b
}

// closed is layer 7's Close, as the library has it.
func closed(content []byte) []byte {
	return binary.LittleEndian.AppendUint32(slices.Clone(content), crc32.ChecksumIEEE(content))
}

// spanOf: how many sectors a content has, counted one by one.
func spanOf(content []byte) int {
	many := 1
	for len(content)+4 > many*inner {
		many++
	}
	return many
}

func wantErrno(t *testing.T, what string, got, want api.Errno) {
	t.Helper()
	if got != want {
		t.Errorf("%s: %d; want %d", what, got, want)
	}
}

// lay puts a content there, flushed, with a generation of the test's own choice.
func lay(t *testing.T, d *disk.Disk, at int, generation uint64, content []byte) {
	t.Helper()
	layBytes(t, d, at, generation, closed(content))
}

func layBytes(t *testing.T, d *disk.Disk, at int, number uint64, b []byte) {
	t.Helper()
	wantErrno(t, "stamp.Write", stamp.Write(d, at, number, b), ok)
	wantErrno(t, "Flush", d.Flush(), ok)
}

// number gives a sector a stamp, and bytes that stand for nothing.
func number(t *testing.T, d *disk.Disk, at int, n uint64) {
	t.Helper()
	s := api.Sector(slices.Concat(bytes.Repeat([]byte{255}, 56), make([]byte, 8)))
	binary.LittleEndian.PutUint64(s[56:], n)
	wantErrno(t, "Put", d.Put(at, s), ok)
	wantErrno(t, "Flush", d.Flush(), ok)
}

func wantRead(t *testing.T, d *disk.Disk, from, size int, content []byte, generation uint64) {
	t.Helper()
	c, g, e := slot.Read(d, from, size)
	if !bytes.Equal(c, content) || g != generation || e != ok {
		t.Errorf("Read of %d from %d: %+q, %d, %d; want %+q, %d", size, from, c, g, e, content, generation)
	}
}

func wantNothing(t *testing.T, d *disk.Disk, from, size int) {
	t.Helper()
	if c, g, e := slot.Read(d, from, size); len(c) != 0 || g != 0 || e != noSlot {
		t.Errorf("Read of %d from %d: %+q, %d, %d; want nothing", size, from, c, g, e)
	}
}

func wantNext(t *testing.T, d *disk.Disk, from, size int, generation uint64) {
	t.Helper()
	if g, e := slot.Next(d, from, size); g != generation || e != ok {
		t.Errorf("Next of %d from %d: %d, %d; want %d", size, from, g, e, generation)
	}
}

func write(t *testing.T, d *disk.Disk, from, size int, content []byte, generation uint64) {
	t.Helper()
	if g, e := slot.Write(d, from, size, content); g != generation || e != ok {
		t.Errorf("Write of %d bytes: %d, %d; want %d", len(content), g, e, generation)
	}
}

func wantWriteError(t *testing.T, d *disk.Disk, from, size int, content []byte, want api.Errno) {
	t.Helper()
	if g, e := slot.Write(d, from, size, content); g != 0 || e != want {
		t.Errorf("Write of %d bytes to %d from %d: %d, %d; want %d", len(content), size, from, g, e, want)
	}
}

// contents: what each sector has.
func contents(d *disk.Disk) []api.Sector {
	sectors := make([]api.Sector, d.Size())
	for at := range sectors {
		sectors[at], _ = d.Get(at)
	}
	return sectors
}

// wantUntouched: what is asked changes no sector, leaves nothing on its way but what was, and is no act.
func wantUntouched(t *testing.T, d *disk.Disk, ask func()) {
	t.Helper()
	before, queue := contents(d), d.Queue()
	d.Fuse(0)
	ask()
	if d.Dead() || !slices.Equal(contents(d), before) || !slices.Equal(d.Queue(), queue) {
		t.Errorf("dead: %v, on their way: %v; before: %v", d.Dead(), d.Queue(), queue)
	}
	d.Fuse(-1)
}

// P11.1, P11.2, P11.3: places that can't be, whatever lies there.
func TestPlacesThatCantBe(t *testing.T) {
	for _, disksize := range []int{0, 1, 2, 9, 509, 510, 511, 512, 2048} {
		d := disk.Blank(disksize)
		for at := range disksize {
			lay(t, d, at, uint64(at+1), []byte("x"))
		}
		for _, c := range [][2]int{
			{-1, 1}, {-2, 1}, {-3, 4}, {least, 1}, {least, 255}, {least, least}, {least, greatest},
			{0, 0}, {0, -1}, {1, 0}, {0, least}, {disksize, 0}, {disksize, -1}, {disksize + 2, -1}, {greatest, least}, {greatest, -1},
			{0, 256}, {0, 257}, {0, 512}, {0, 1 << 32}, {0, 1<<32 + 1}, {0, 1 << 62}, {0, 1 << 63 >> 1}, {0, greatest}, {0, greatest/2 + 2},
			{disksize - 1, 1}, {disksize, 1}, {disksize + 1, 1}, {disksize - 3, 2}, {disksize - 509, 255}, {disksize, 255},
			{0, disksize/2 + 1}, {1, disksize / 2}, {greatest, 1}, {greatest - 1, 1}, {greatest - 509, 255}, {greatest, greatest}, {1 << 32, 1},
		} {
			if c[0] >= 0 && c[0] <= disksize && c[1] >= 1 && c[1] <= 255 && c[0]+2*c[1] <= disksize {
				continue // they can be, on a disk of this size
			}
			wantUntouched(t, d, func() {
				wantNothing(t, d, c[0], c[1])
				if g, e := slot.Next(d, c[0], c[1]); g != 0 || e != noSlot {
					t.Errorf("Next of %d from %d on %d: %d, %d", c[1], c[0], disksize, g, e)
				}
				for _, n := range []int{0, 2, mostBytes, mostBytes + 1} {
					wantWriteError(t, d, c[0], c[1], make([]byte, n), noSlot)
				}
			})
		}
	}
}

// P11.1, P11.2, P11.3: all places that can be, on small disks, and the greatest ones.
func TestPlacesThatCanBe(t *testing.T) {
	try := func(disksize, from, size int) {
		d := disk.Blank(disksize)
		wantNothing(t, d, from, size)
		wantNext(t, d, from, size, 1)
		for i, n := range []int{size*inner - 4, 0, size*inner - 5, 3} {
			write(t, d, from, size, counted(n), uint64(i+1))
			wantRead(t, d, from, size, counted(n), uint64(i+1))
			wantNext(t, d, from, size, uint64(i+2))
		}
		for at, s := range contents(d) {
			if (at < from || at >= from+2*size) && s != (api.Sector{}) {
				t.Errorf("%d, outside of %d from %d, was written: %v", at, size, from, s)
			}
		}
	}
	for disksize := range 10 {
		for from := range disksize {
			for size := 1; from+2*size <= disksize; size++ {
				try(disksize, from, size)
			}
		}
	}
	try(510, 0, 255)
	try(511, 1, 255)
	try(511, 0, 255)
	try(2048, 2048-510, 255)
	try(2048, 2046, 1)
}

// The chapter's example.
func TestExample(t *testing.T) {
	d := disk.Blank(2)
	write(t, d, 0, 1, []byte("ab"), 1)
	wantRead(t, d, 0, 1, []byte("ab"), 1)
}

// P11.3: each byte of both places, and no byte beside them.
func TestLayout(t *testing.T) {
	d := disk.Blank(8)
	long := closed(counted(60))
	write(t, d, 1, 3, []byte("ab"), 1)
	want := make([][]byte, 8)
	for at := range want {
		want[at] = make([]byte, sectorSize)
	}
	wantSectors := func() {
		t.Helper()
		for at, s := range contents(d) {
			if !bytes.Equal(s[:], want[at]) {
				t.Errorf("%d has %v; want %v", at, s, want[at])
			}
		}
	}
	short := slices.Concat([]byte{0, 1, 6, 'a', 'b', 0x6d, 0x48, 0x83, 0x9e}, make([]byte, 47))
	want[4] = slices.Concat(short, []byte{1}, make([]byte, 7))
	wantSectors()
	// A sector that nobody wrote tells from where the next generation is counted.
	number(t, d, 3, 0x0807060504030200>>2)
	base := uint64(0x0807060504030200 >> 2)
	write(t, d, 1, 3, counted(60), base+2)
	stamped := func(n uint64) []byte { return binary.LittleEndian.AppendUint64(nil, n) }
	want[1] = slices.Concat([]byte{0, 2, 53}, long[:53], stamped(base+2))
	want[2] = slices.Concat([]byte{1, 2, 11}, long[53:], make([]byte, 42), stamped(base+2))
	want[3] = slices.Concat(bytes.Repeat([]byte{255}, 56), stamped(base))
	wantSectors()
	write(t, d, 1, 3, []byte("ab"), base+3)
	want[4] = slices.Concat(short, stamped(base+3))
	wantSectors()
	write(t, d, 1, 3, []byte("ab"), base+4)
	want[1] = slices.Concat(short, stamped(base+4))
	wantSectors()
}

// P11.1: the greater generation, whichever place it has.
func TestReadTheGreater(t *testing.T) {
	for _, c := range []struct{ even, odd uint64 }{
		{2, 1}, {2, 3}, {4, 1}, {2, 5}, {100, 99}, {100, 101}, {0x0100, 0xff}, {0x0200, 0x01ff}, {0x0100, 0x0203}, {0x0302, 0x0203},
		{1 << 32, 1<<32 - 1}, {1 << 62, 1<<62 - 1}, {1 << 62, 1<<62 + 1}, {1 << 63, 1<<63 + 1}, {1 << 63, 5}, {6, 1<<63 + 5}, {1<<64 - 2, 1<<64 - 1},
	} {
		d := disk.Blank(7)
		lay(t, d, 1, c.even, []byte("even"))
		wantRead(t, d, 1, 3, []byte("even"), c.even)
		lay(t, d, 4, c.odd, counted(100))
		if c.even > c.odd {
			wantRead(t, d, 1, 3, []byte("even"), c.even)
		} else {
			wantRead(t, d, 1, 3, counted(100), c.odd)
		}
		number(t, d, 1, 1)
		wantRead(t, d, 1, 3, counted(100), c.odd)
		number(t, d, 4, 1)
		wantNothing(t, d, 1, 3)
	}
}

// P11.1: what stands in the other one's place doesn't count, however great it is.
func TestReadItsOwnPlace(t *testing.T) {
	for _, size := range []int{1, 2, 5} {
		for _, high := range []uint64{0, 0x0100, 1 << 40, 1 << 63} {
			d := disk.Blank(2*size + 3)
			first, second := 2, 2+size
			lay(t, d, first, high+9, []byte("wrong"))
			wantNothing(t, d, 2, size)
			lay(t, d, second, high+10, []byte("wrong too"))
			wantNothing(t, d, 2, size)
			lay(t, d, first, 4, []byte("right"))
			wantRead(t, d, 2, size, []byte("right"), 4)
			lay(t, d, first, high+9, []byte("wrong"))
			lay(t, d, second, 3, []byte("right too"))
			wantRead(t, d, 2, size, []byte("right too"), 3)
		}
	}
}

// P11.1: within its place, and from its beginning on.
func TestReadWithinThePlace(t *testing.T) {
	for _, c := range []struct{ at, n int }{{2, 103}, {3, 10}, {5, 10}, {1, 10}, {1, 60}, {0, 10}, {6, 10}, {4, 103}} {
		for generation := uint64(7); generation <= 8; generation++ {
			d := disk.Blank(9)
			lay(t, d, c.at, generation, counted(c.n))
			wantNothing(t, d, 2, 2)
		}
	}
	// The same bytes stand in places that are as long as they are, or longer.
	d := disk.Blank(20)
	lay(t, d, 2, 8, counted(100))
	wantRead(t, d, 2, 2+1, counted(100), 8)
	wantRead(t, d, 2, 9, counted(100), 8)
	lay(t, d, 2+3, 11, counted(155))
	wantRead(t, d, 2, 3, counted(155), 11)
	lay(t, d, 2+3, 11, counted(156))
	wantRead(t, d, 2, 3, counted(100), 8)
	// What lies in a place behind a content is nothing to it.
	lay(t, d, 2+3, 11, []byte("short"))
	lay(t, d, 2+4, 13, []byte("behind"))
	wantRead(t, d, 2, 3, []byte("short"), 11)
	// Two sectors are the second place's end, and a third one is behind it.
	lay(t, d, 14, 9, counted(150))
	wantNothing(t, d, 12, 2)
	wantRead(t, d, 11, 3, counted(150), 9)
}

// P11.1: bytes that aren't a Close, in the place of a greater generation.
func TestWhatIsNoClose(t *testing.T) {
	other := closed([]byte("other"))
	other[8] ^= 1
	for _, b := range [][]byte{nil, {0}, {0, 0, 0}, {0, 0, 0, 1}, {1, 0, 0, 0}, []byte("abc"), other, counted(49), counted(60), append(closed([]byte("x")), 0)} {
		d := disk.Blank(6)
		layBytes(t, d, 0, 8, b)
		wantNothing(t, d, 0, 3)
		lay(t, d, 3, 1, []byte("old"))
		wantRead(t, d, 0, 3, []byte("old"), 1)
		lay(t, d, 0, 2, []byte("new"))
		layBytes(t, d, 3, 9, b)
		wantRead(t, d, 0, 3, []byte("new"), 2)
	}
	d := disk.Blank(6)
	layBytes(t, d, 0, 2, make([]byte, 4))
	wantRead(t, d, 0, 3, nil, 2)
}

// P11.1: whichever bit of the greater one is another one, the other one counts; only the stamp may be another one that is as odd.
func TestOtherBits(t *testing.T) {
	for _, n := range []int{0, 10, 49, 70, 110} {
		many := spanOf(make([]byte, n))
		for place := range many {
			for bit := range 8 * sectorSize {
				d := disk.Blank(6)
				lay(t, d, 0, 6, counted(n))
				lay(t, d, 3, 5, []byte("old"))
				s, _ := d.Get(place)
				s[bit/8] ^= 1 << (bit % 8)
				wantErrno(t, "Put", d.Put(place, s), ok)
				want, generation := []byte("old"), uint64(5)
				turned := uint64(6)
				if bit/8 >= 56 && many == 1 {
					turned ^= 1 << (bit - 8*56)
				}
				// Where nothing but a single sector's stamp is another one, the content stands, and is less, or more, or has another place.
				if turned != 6 && turned%2 == 0 && turned > 5 {
					want, generation = counted(n), turned
				}
				wantRead(t, d, 0, 3, want, generation)
				if t.Failed() {
					t.Fatalf("bit %d of sector %d of %d bytes", bit, place, n)
				}
			}
		}
	}
}

// P11.2: above all numbers there, and as odd as what counts isn't.
func TestNext(t *testing.T) {
	for _, c := range []struct{ counts, top, next uint64 }{
		{0, 0, 1}, {0, 1, 2}, {0, 2, 3}, {0, 0xff, 0x0100}, {0, 0x0100, 0x0101}, {0, mostTop - 1, mostTop}, {0, mostTop, mostTop + 1},
		{1, 1, 2}, {1, 2, 4}, {1, 3, 4}, {1, 4, 6}, {1, 0xff, 0x0100}, {1, 0x0100, 0x0102}, {1, 0x01ff, 0x0200}, {1, mostTop - 1, mostTop}, {1, mostTop, mostTop + 2},
		{2, 2, 3}, {2, 3, 5}, {2, 4, 5}, {2, 5, 7}, {2, 0xff, 0x0101}, {2, 0xfe, 0xff}, {2, 0xffff, 0x010001}, {2, mostTop - 1, mostTop + 1}, {2, mostTop, mostTop + 1},
		{mostTop, mostTop, mostTop + 1}, {mostTop - 1, mostTop - 1, mostTop}, {mostTop - 1, mostTop, mostTop + 2}, {900, 901, 903}, {901, 902, 904},
	} {
		for at := 2; at < 8; at++ {
			d := disk.Blank(10)
			stands := 2 + 3*int(c.counts%2)
			if c.top > c.counts && at != stands {
				number(t, d, at, c.top)
			}
			if c.counts > 0 {
				lay(t, d, stands, c.counts, []byte("counts"))
			}
			if c.top > c.counts && at == stands {
				number(t, d, at+1, c.top)
			}
			wantNext(t, d, 2, 3, c.next)
			write(t, d, 2, 3, counted(90), c.next)
			wantRead(t, d, 2, 3, counted(90), c.next)
		}
	}
}

// P11.2: Top is that of all sectors of both places, and of no other ones.
func TestNextOfAllSectors(t *testing.T) {
	for size := 1; size <= 4; size++ {
		for at := range 2*size + 4 {
			d := disk.Blank(2*size + 4)
			number(t, d, at, 40)
			want := uint64(1)
			if at >= 2 && at < 2+2*size {
				want = 41
			}
			wantNext(t, d, 2, size, want)
		}
	}
}

// P11.2: what stands in a place that isn't its own tells nothing, but its number is there.
func TestNextOfAWrongPlace(t *testing.T) {
	d := disk.Blank(4)
	lay(t, d, 0, 7, []byte("wrong"))
	wantNext(t, d, 0, 2, 8)
	lay(t, d, 2, 3, []byte("right"))
	wantNext(t, d, 0, 2, 8)
	lay(t, d, 0, 8, []byte("right"))
	wantNext(t, d, 0, 2, 9)
	lay(t, d, 2, 10, []byte("wrong"))
	wantNext(t, d, 0, 2, 11)
	lay(t, d, 2, 11, []byte("right"))
	wantNext(t, d, 0, 2, 12)
}

// P11.3: what is written is what counts, each one in the other place than the one before it, and that one still stands.
func TestWritesInTurn(t *testing.T) {
	d := disk.Blank(12)
	before := []byte(nil)
	for i := range 40 {
		generation := uint64(i + 1)
		content := counted(i * 7 % 209)
		write(t, d, 2, 4, content, generation)
		wantRead(t, d, 2, 4, content, generation)
		at := 2 + 4*(i+1)%8
		if s, _ := d.Get(at); s[56] != byte(generation) {
			t.Errorf("at %d there is %d; want %d", at, s[56], generation)
		}
		if i > 0 {
			other := disk.Blank(12)
			for place, s := range contents(d) {
				if place < at || place >= at+4 {
					wantErrno(t, "Put", other.Put(place, s), ok)
				}
			}
			wantRead(t, other, 2, 4, before, generation-1)
		}
		before = content
	}
}

// P11.3: how long a content may be, at each edge.
func TestSizes(t *testing.T) {
	for _, size := range []int{1, 2, 3, 4, 77, 254, 255} {
		most := size*inner - 4
		d := disk.Blank(2 * size)
		generation := uint64(0)
		for _, n := range []int{most, most - 1, 0, most, 1} {
			generation++
			write(t, d, 0, size, counted(n), generation)
			wantRead(t, d, 0, size, counted(n), generation)
		}
		wantUntouched(t, d, func() {
			for _, n := range []int{most + 1, most + 2, most + 3, most + 4, most + 5, most + inner, mostBytes + 1, 13515, 13516, 13519, 13520, 65536, 1 << 20} {
				wantWriteError(t, d, 0, size, make([]byte, n), noSlot)
			}
		})
		wantRead(t, d, 0, size, []byte{1}, generation)
		wantNext(t, d, 0, size, generation+1)
	}
}

// P11.3: bytes of all kinds, zeros at the end, and what looks like a content itself.
func TestBytesOfAllKinds(t *testing.T) {
	inside := closed([]byte("inside"))
	d := disk.Blank(16)
	for i, content := range [][]byte{
		nil, {0}, {0, 0}, make([]byte, 49), make([]byte, 50), make([]byte, 300), bytes.Repeat([]byte{255}, 200),
		inside, closed(inside), slices.Concat([]byte{0, 1, 10}, inside, make([]byte, 43), []byte{9}), append(counted(60), 0, 0, 0), {0}, {},
	} {
		write(t, d, 0, 8, content, uint64(i+1))
		wantRead(t, d, 0, 8, content, uint64(i+1))
	}
}

// P11.3: what was written is flushed: a crash behind it takes nothing away, and leaves nothing on its way.
func TestWriteIsFlushed(t *testing.T) {
	d := disk.Blank(10)
	for i, n := range []int{0, 49, 50, 3, 102, 103, 208} {
		write(t, d, 1, 4, counted(n), uint64(i+1))
		if q := d.Queue(); len(q) != 0 {
			t.Error("on their way:", q)
		}
		d.Power()
		wantRead(t, d, 1, 4, counted(n), uint64(i+1))
	}
	// All of the disk is flushed, as Flush does it.
	wantErrno(t, "Put", d.Put(9, api.Sector{7}), ok)
	write(t, d, 1, 4, nil, 8)
	d.Power()
	if s, _ := d.Get(9); s != (api.Sector{7}) {
		t.Error("what was on its way before:", s)
	}
}

// P11.3: each sector is one act and the Flush is one, nothing else is any; the disk's first error is told.
func TestWriteActs(t *testing.T) {
	for _, n := range []int{0, 49, 50, 200, mostBytes} {
		many := spanOf(make([]byte, n))
		for acts := range many + 3 {
			d := disk.Blank(2*many + 2)
			write(t, d, 1, many, []byte("old"), 1)
			d.Fuse(acts)
			if acts > many {
				write(t, d, 1, many, counted(n), 2)
				for range acts - many - 1 {
					wantErrno(t, "an act that is left", d.Flush(), ok)
				}
				wantErrno(t, "an act too many", d.Flush(), noPower)
				d.Power()
				wantRead(t, d, 1, many, counted(n), 2)
				continue
			}
			wantWriteError(t, d, 1, many, counted(n), noPower)
			if q := d.Queue(); !d.Dead() || len(q) != acts || acts > 0 && (q[0] != 1 || q[acts-1] != acts) {
				t.Errorf("%d acts: dead %v, %v on their way", acts, d.Dead(), q)
			}
			d.Power()
			wantRead(t, d, 1, many, []byte("old"), 1)
			wantNext(t, d, 1, many, 2)
		}
	}
}

// P11.3: of a dead disk, too, what can't be is told first.
func TestWriteOnADeadDisk(t *testing.T) {
	d := disk.Blank(4)
	d.Fuse(0)
	wantErrno(t, "Flush", d.Flush(), noPower)
	wantWriteError(t, d, 1, 2, nil, noSlot)
	wantWriteError(t, d, 0, 2, counted(103), noSlot)
	wantWriteError(t, d, 0, 2, counted(102), noPower)
	wantNothing(t, d, 0, 2)
	d.Power()
	write(t, d, 0, 2, counted(102), 1)
}

// P11.1, P11.2: to ask is no act, and changes nothing; a dead disk is asked all the same, and what is on its way counts.
func TestAskingIsNoAct(t *testing.T) {
	d := disk.Blank(8)
	lay(t, d, 4, 5, []byte("old"))
	wantErrno(t, "stamp.Write", stamp.Write(d, 1, 8, closed(counted(60))), ok)
	ask := func() {
		for range 3 {
			wantRead(t, d, 1, 3, counted(60), 8)
			wantNext(t, d, 1, 3, 9)
		}
	}
	wantUntouched(t, d, ask)
	d.Fuse(0)
	wantErrno(t, "Flush", d.Flush(), noPower)
	ask()
	d.Power()
	wantRead(t, d, 1, 3, []byte("old"), 5)
	wantNext(t, d, 1, 3, 6)
}

// P11.1, P11.3: places beside one another on a disk have nothing to do with one another.
func TestTwoPairs(t *testing.T) {
	d := disk.Blank(8)
	for i := range 9 {
		write(t, d, 0, 2, counted(i), uint64(2*i+1))
		write(t, d, 4, 2, counted(100-i), uint64(i+1))
		write(t, d, 0, 2, counted(50+i), uint64(2*i+2))
		wantRead(t, d, 0, 2, counted(50+i), uint64(2*i+2))
		wantRead(t, d, 4, 2, counted(100-i), uint64(i+1))
	}
}

// P1: numbers above those of which anything is promised.
func TestGreatestNumbers(t *testing.T) {
	for _, top := range []uint64{mostTop + 1, 1 << 63, math.MaxUint64 - 2, math.MaxUint64 - 1, math.MaxUint64} {
		for at := range 4 {
			d := disk.Blank(4)
			write(t, d, 0, 2, []byte("a"), 1)
			number(t, d, at, top)
			for range 6 {
				slot.Next(d, 0, 2)
				slot.Write(d, 0, 2, []byte("b"))
				slot.Read(d, 0, 2)
			}
			lay(t, d, 2*int(top%2), top, []byte("c"))
			for range 6 {
				slot.Next(d, 0, 2)
				slot.Write(d, 0, 2, []byte("d"))
				slot.Read(d, 0, 2)
			}
		}
	}
}

// The rules of memory: nothing handed in is kept or written on, and answers share nothing.
func TestMemory(t *testing.T) {
	d := disk.Blank(8)
	room := counted(200)
	write(t, d, 0, 4, room[10:60:70], 1)
	write(t, d, 0, 4, room[60:180], 2)
	if !bytes.Equal(room, counted(200)) {
		t.Error("Write wrote on what it was handed")
	}
	clear(room)
	want := counted(200)[60:180]
	one, _, _ := slot.Read(d, 0, 4)
	other, _, _ := slot.Read(d, 0, 4)
	clear(one[:cap(one)])
	if !bytes.Equal(other, want) {
		t.Error("two answers share memory")
	}
	wantRead(t, d, 0, 4, want, 2)
	number(t, d, 0, 1)
	wantRead(t, d, 0, 4, counted(200)[10:60], 1)
}

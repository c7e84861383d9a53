package stamp_test

import (
	"bytes"
	"math"
	"slices"
	"testing"

	"falsework/api"
	"falsework/disk"
	"falsework/stamp"
)

// The chapter's numbers, as numbers of their own.
const (
	ok         = api.Errno(0)
	noSector   = api.Errno(81)
	noPower    = api.Errno(82)
	noStamp    = api.Errno(91)
	sectorSize = 64
	inner      = 53
	mostSpan   = 255
	mostBytes  = 13515
	least      = math.MinInt
	greatest   = math.MaxInt
	lastStamp  = uint64(math.MaxUint64)
)

// The sections Errors and Limits: callers may hold the numbers themselves against an answer.
func TestNumbers(t *testing.T) {
	if api.ErrStamp != noStamp || api.ErrSector != noSector || api.ErrPower != noPower {
		t.Error("errors:", api.ErrStamp, api.ErrSector, api.ErrPower)
	}
	if api.Inner != inner || api.MaxSpan != mostSpan || api.SectorSize != sectorSize {
		t.Error("limits:", api.Inner, api.MaxSpan, api.SectorSize)
	}
}

// counted: so many bytes, none of them 0, and no two sectors full of them the same.
func counted(n int) []byte {
	b := make([]byte, n)
	for i := range b {
		b[i] = byte(1 + (i+i/251)%255)
	}
	return b
}

func wantErrno(t *testing.T, what string, got, want api.Errno) {
	t.Helper()
	if got != want {
		t.Errorf("%s: %d; want %d", what, got, want)
	}
}

func write(t *testing.T, d *disk.Disk, at int, number uint64, b []byte) {
	t.Helper()
	wantErrno(t, "Write", stamp.Write(d, at, number, b), ok)
}

func put(t *testing.T, d *disk.Disk, at int, s api.Sector) {
	t.Helper()
	wantErrno(t, "Put", d.Put(at, s), ok)
}

func wantRead(t *testing.T, d *disk.Disk, at, end int, b []byte, number uint64, many int) {
	t.Helper()
	gotB, gotNumber, gotMany, e := stamp.Read(d, at, end)
	if !bytes.Equal(gotB, b) || gotNumber != number || gotMany != many || e != ok {
		t.Errorf("Read from %d to %d: %d bytes %q, %d, %d, %d; want %d bytes, %d, %d",
			at, end, len(gotB), gotB, gotNumber, gotMany, e, len(b), number, many)
	}
}

func wantNone(t *testing.T, d *disk.Disk, at, end int, want api.Errno) {
	t.Helper()
	b, number, many, e := stamp.Read(d, at, end)
	if len(b) != 0 || number != 0 || many != 0 || e != want {
		t.Errorf("Read from %d to %d: %q, %d, %d, %d; want none and %d", at, end, b, number, many, e, want)
	}
}

func wantTop(t *testing.T, d *disk.Disk, from, end int, want uint64, wantErr api.Errno) {
	t.Helper()
	if top, e := stamp.Top(d, from, end); top != want || e != wantErr {
		t.Errorf("Top from %d to %d: %d, %d; want %d, %d", from, end, top, e, want, wantErr)
	}
}

// P9.1
func TestSpan(t *testing.T) {
	for _, c := range []struct{ n, want int }{
		{least, 0}, {least + 1, 0}, {-1 << 32, 0}, {-53, 0}, {-2, 0}, {-1, 0},
		{0, 1}, {1, 1}, {2, 1}, {52, 1}, {53, 1}, {54, 2}, {105, 2}, {106, 2}, {107, 3}, {159, 3}, {160, 4},
		{13461, 254}, {13462, 254}, {13463, 255}, {13514, 255}, {13515, 255},
		{13516, 0}, {13517, 0}, {13568, 0}, {13569, 0}, {65536, 0}, {1 << 31, 0}, {1 << 32, 0}, {1<<32 + 53, 0},
		{greatest - 53, 0}, {greatest - 52, 0}, {greatest - 51, 0}, {greatest - 1, 0}, {greatest, 0},
	} {
		if got := stamp.Span(c.n); got != c.want {
			t.Errorf("Span of %d is %d; want %d", c.n, got, c.want)
		}
	}
}

// P9.1: each byte of some sectors.
func TestLayout(t *testing.T) {
	d := disk.Blank(6)
	write(t, d, 1, 0x0807060504030201, counted(110))
	want := make([][]byte, 6)
	for at := range want {
		want[at] = make([]byte, sectorSize)
	}
	number := []byte{1, 2, 3, 4, 5, 6, 7, 8}
	want[1] = slices.Concat([]byte{0, 3, 53}, counted(110)[:53], number)
	want[2] = slices.Concat([]byte{1, 3, 53}, counted(110)[53:106], number)
	want[3] = slices.Concat([]byte{2, 3, 4}, counted(110)[106:], make([]byte, 49), number)
	for at := range want {
		if s, e := d.Get(at); !bytes.Equal(s[:], want[at]) || e != ok {
			t.Errorf("%d has %v, %d; want %v", at, s, e, want[at])
		}
	}
}

// P9.1, P9.2: how many bytes the sectors have, at each edge.
func TestSizes(t *testing.T) {
	for _, c := range []struct{ n, many, last int }{
		{0, 1, 0}, {1, 1, 1}, {52, 1, 52}, {53, 1, 53}, {54, 2, 1}, {106, 2, 53}, {107, 3, 1},
		{6784, 128, 53}, {6785, 129, 1}, {13462, 254, 53}, {13463, 255, 1}, {13514, 255, 52}, {13515, 255, 53},
	} {
		d := disk.Blank(c.many)
		b := counted(c.n)
		write(t, d, 0, 7, b)
		first, _ := d.Get(0)
		last, _ := d.Get(c.many - 1)
		if first[0] != 0 || int(first[1]) != c.many || int(first[2]) != min(c.n, 53) {
			t.Errorf("%d bytes: the first sector begins with %v", c.n, first[:3])
		}
		if int(last[0]) != c.many-1 || int(last[1]) != c.many || int(last[2]) != c.last {
			t.Errorf("%d bytes: the last sector begins with %v", c.n, last[:3])
		}
		wantRead(t, d, 0, c.many, b, 7, c.many)
	}
}

// P9.1: all numbers from 1 on can be a stamp.
func TestStamps(t *testing.T) {
	for _, number := range []uint64{1, 2, 127, 128, 255, 256, 257, 65535, 65536, 1<<32 - 1, 1 << 32, 1 << 62, 1<<63 - 1, 1 << 63, lastStamp - 1, lastStamp} {
		d := disk.Blank(3)
		write(t, d, 0, number, counted(60))
		wantRead(t, d, 0, 3, counted(60), number, 2)
		wantTop(t, d, 0, 3, number, ok)
		wantTop(t, d, 1, 2, number, ok)
		wantTop(t, d, 2, 3, 0, ok)
	}
}

// P9.1: wherever they have room, and nowhere else.
func TestWhereWriteGoes(t *testing.T) {
	for _, c := range []struct{ size, n, at int }{
		{1, 0, 0}, {1, 53, 0}, {2, 54, 0}, {8, 54, 6}, {8, 53, 7}, {8, 424, 0}, {255, mostBytes, 0}, {2048, 1, 2047}, {2048, mostBytes, 1793},
	} {
		d := disk.Blank(c.size)
		write(t, d, c.at, 9, counted(c.n))
		wantRead(t, d, c.at, c.size, counted(c.n), 9, stamp.Span(c.n))
	}
	for _, c := range []struct{ size, n, at int }{
		{0, 0, 0}, {0, 1, -1}, {1, 0, 1}, {1, 54, 0}, {1, 0, -1}, {8, 54, 7}, {8, 54, -1}, {8, 54, -2}, {8, 424, 1}, {8, 425, 0},
		{8, 0, 8}, {8, 0, 9}, {8, 0, least}, {8, 0, greatest}, {8, 54, greatest}, {8, 54, greatest - 1}, {8, 54, least},
		{254, mostBytes, 0}, {2048, mostBytes, 1794}, {2048, 1, 2048}, {2048, 1, 1 << 32},
	} {
		d := disk.Blank(c.size)
		wantErrno(t, "Write", stamp.Write(d, c.at, 9, counted(c.n)), noSector)
		if q := d.Queue(); len(q) != 0 {
			t.Errorf("%d bytes at %d of %d: %v are on their way", c.n, c.at, c.size, q)
		}
	}
}

// P9.1: what can't be is told first, also of sectors that aren't there and of a dead disk.
func TestWriteErrStamp(t *testing.T) {
	d := disk.Blank(300)
	d.Fuse(0)
	wantErrno(t, "no stamp", stamp.Write(d, 0, 0, counted(5)), noStamp)
	wantErrno(t, "no stamp and no bytes", stamp.Write(d, 0, 0, nil), noStamp)
	wantErrno(t, "no stamp and no sectors", stamp.Write(d, -1, 0, nil), noStamp)
	wantErrno(t, "too many bytes", stamp.Write(d, 0, 1, counted(mostBytes+1)), noStamp)
	wantErrno(t, "too many bytes and no sectors", stamp.Write(d, 299, 1, counted(mostBytes+1)), noStamp)
	wantErrno(t, "far too many bytes", stamp.Write(d, -1, lastStamp, counted(1<<20)), noStamp)
	wantErrno(t, "no sectors", stamp.Write(d, 300, 1, nil), noSector)
	if d.Dead() || len(d.Queue()) != 0 {
		t.Error("what can't be is no act:", d.Dead(), d.Queue())
	}
	wantErrno(t, "no power", stamp.Write(d, 0, 1, nil), noPower)
	wantErrno(t, "no sectors of a dead one", stamp.Write(d, 300, 1, nil), noSector)
	wantErrno(t, "no stamp of a dead one", stamp.Write(d, 300, 0, nil), noStamp)
}

// P9.1: they come to the queue, in order, and aren't flushed.
func TestWriteIsQueued(t *testing.T) {
	d := disk.Blank(10)
	write(t, d, 4, 1, counted(160))
	write(t, d, 2, 2, counted(107))
	write(t, d, 9, 3, nil)
	if q := d.Queue(); !slices.Equal(q, []int{4, 5, 6, 7, 2, 3, 4, 9}) {
		t.Error("Queue:", q)
	}
	wantRead(t, d, 2, 10, counted(107), 2, 3)
	wantRead(t, d, 9, 10, nil, 3, 1)
	d.Power()
	for at := range 10 {
		wantNone(t, d, at, 10, noStamp)
	}
	wantTop(t, d, 0, 10, 0, ok)
}

// P9.1: each sector is one act, nothing else is; the disk's first error ends it.
func TestWriteCutOff(t *testing.T) {
	for acts := range 5 {
		d := disk.Blank(8)
		d.Fuse(acts)
		want := noPower
		if acts == 4 {
			want = ok
		}
		wantErrno(t, "Write", stamp.Write(d, 2, 5, counted(160)), want)
		if q := d.Queue(); !slices.Equal(q, []int{2, 3, 4, 5}[:acts]) || d.Dead() != (want == noPower) {
			t.Errorf("%d acts: %v are on their way, dead %v", acts, q, d.Dead())
		}
		if want == noPower {
			wantNone(t, d, 2, 8, noStamp)
			continue
		}
		wantRead(t, d, 2, 8, counted(160), 5, 4)
		wantErrno(t, "Flush", d.Flush(), noPower)
		wantRead(t, d, 2, 8, counted(160), 5, 4)
		wantTop(t, d, 0, 8, 5, ok)
	}
}

// P9.2: from where, and up to where.
func TestReadRange(t *testing.T) {
	d := disk.Blank(8)
	write(t, d, 2, 258, counted(140))
	write(t, d, 7, 3, counted(53))
	wantErrno(t, "Flush", d.Flush(), ok)
	for _, end := range []int{5, 6, 7, 8} {
		wantRead(t, d, 2, end, counted(140), 258, 3)
	}
	wantRead(t, d, 7, 8, counted(53), 3, 1)
	for _, c := range [][2]int{
		{2, 4}, {2, 3}, {2, 2}, {2, 1}, {2, 0}, {2, -1}, {2, least}, {0, 8}, {1, 8}, {3, 8}, {4, 8}, {5, 8}, {6, 8}, {0, 0}, {0, least},
		{7, 7}, {8, 8}, {9, 8}, {8, 0}, {greatest, 8}, {greatest, least}, {greatest, 0},
	} {
		wantNone(t, d, c[0], c[1], noStamp)
	}
	for _, c := range [][2]int{
		{-1, 8}, {-1, -1}, {-2, -1}, {-1, 0}, {-1, 9}, {least, 8}, {least, least}, {least, greatest}, {2, 9}, {2, greatest}, {7, 9}, {8, 9},
		{9, 9}, {10, 9}, {greatest, 9}, {greatest, greatest}, {0, 9},
	} {
		wantNone(t, d, c[0], c[1], noSector)
	}
	empty := disk.Blank(0)
	wantNone(t, empty, 0, 0, noStamp)
	wantNone(t, empty, 0, 1, noSector)
	wantNone(t, empty, -1, 0, noSector)
}

// P9.2: bytes of their own behind others; what lies before and behind them is nothing to them.
func TestReadNeighbours(t *testing.T) {
	d := disk.Blank(9)
	write(t, d, 0, 4, counted(54))
	write(t, d, 2, 4, counted(107))
	write(t, d, 5, 4, nil)
	write(t, d, 6, 4, counted(53))
	write(t, d, 7, 4, counted(106))
	wantRead(t, d, 0, 9, counted(54), 4, 2)
	wantRead(t, d, 2, 9, counted(107), 4, 3)
	wantRead(t, d, 5, 9, nil, 4, 1)
	wantRead(t, d, 6, 9, counted(53), 4, 1)
	wantRead(t, d, 7, 9, counted(106), 4, 2)
	for _, at := range []int{1, 3, 4, 8} {
		wantNone(t, d, at, 9, noStamp)
	}
	write(t, d, 4, 5, nil)
	wantNone(t, d, 2, 9, noStamp)
	wantRead(t, d, 4, 9, nil, 5, 1)
	wantRead(t, d, 0, 9, counted(54), 4, 2)
}

// P9.2: sectors that Write doesn't make so, a byte of one of them another one.
func TestReadOtherBytes(t *testing.T) {
	for _, n := range []int{0, 1, 20, 53, 54, 106, 107, 130} {
		many := stamp.Span(n)
		for at := range many {
			for i := range sectorSize {
				b := counted(n)
				d := disk.Blank(many)
				write(t, d, 0, 0x1234, b)
				s, _ := d.Get(at)
				s[i] ^= 128
				put(t, d, at, s)
				place := at*inner + i - 3
				switch {
				case i >= 3 && i < 56 && place < n:
					b[place] ^= 128
					wantRead(t, d, 0, many, b, 0x1234, many)
				case i >= 56 && many == 1:
					wantRead(t, d, 0, many, b, 0x1234^128<<(8*(i-56)), many)
				default:
					wantNone(t, d, 0, many, noStamp)
				}
			}
		}
	}
}

// P9.2: a last sector that tells of fewer bytes than it has, or of more: behind them are zeros alone, and a zero may be one of them.
func TestReadOtherSizes(t *testing.T) {
	for size := range 256 {
		d := disk.Blank(2)
		write(t, d, 0, 3, counted(73))
		s, _ := d.Get(1)
		s[2] = byte(size)
		put(t, d, 1, s)
		if size >= 20 && size <= 53 {
			wantRead(t, d, 0, 2, append(counted(73), make([]byte, size-20)...), 3, 2)
		} else {
			wantNone(t, d, 0, 2, noStamp)
		}
	}
}

// headed: a sector that begins so, and has a stamp.
func headed(index, many, size int, number byte) api.Sector {
	var s api.Sector
	s[0], s[1], s[2], s[56] = byte(index), byte(many), byte(size), number
	return s
}

// P9.2: heads that Write doesn't make.
func TestReadHeads(t *testing.T) {
	for _, c := range []struct {
		sectors []api.Sector
		stands  int // how many bytes; below 0, if nothing stands
	}{
		{[]api.Sector{headed(0, 1, 0, 1)}, 0},
		{[]api.Sector{headed(0, 1, 30, 1)}, 30},
		{[]api.Sector{headed(0, 1, 53, 1)}, 53},
		{[]api.Sector{headed(0, 1, 54, 1)}, -1},
		{[]api.Sector{headed(0, 1, 61, 1)}, -1},
		{[]api.Sector{headed(0, 1, 255, 1)}, -1},
		{[]api.Sector{headed(0, 1, 0, 0)}, -1},
		{[]api.Sector{headed(0, 1, 53, 0)}, -1},
		{[]api.Sector{headed(0, 0, 0, 1)}, -1},
		{[]api.Sector{headed(0, 0, 53, 1)}, -1},
		{[]api.Sector{headed(1, 1, 0, 1)}, -1},
		{[]api.Sector{headed(255, 1, 0, 1)}, -1},
		{[]api.Sector{headed(0, 2, 53, 1)}, -1},
		{[]api.Sector{headed(0, 255, 53, 1)}, -1},
		{[]api.Sector{headed(0, 2, 53, 1), headed(1, 2, 53, 1)}, 106},
		{[]api.Sector{headed(0, 2, 53, 1), headed(1, 2, 1, 1)}, 54},
		{[]api.Sector{headed(0, 2, 53, 1), headed(1, 2, 0, 1)}, -1},
		{[]api.Sector{headed(0, 2, 53, 1), headed(1, 2, 54, 1)}, -1},
		{[]api.Sector{headed(0, 2, 52, 1), headed(1, 2, 53, 1)}, -1},
		{[]api.Sector{headed(0, 2, 54, 1), headed(1, 2, 53, 1)}, -1},
		{[]api.Sector{headed(0, 2, 0, 1), headed(1, 2, 53, 1)}, -1},
		{[]api.Sector{headed(0, 2, 0, 1), headed(1, 2, 0, 1)}, -1},
		{[]api.Sector{headed(0, 2, 53, 1), headed(0, 2, 53, 1)}, -1},
		{[]api.Sector{headed(0, 2, 53, 1), headed(2, 2, 53, 1)}, -1},
		{[]api.Sector{headed(1, 2, 53, 1), headed(0, 2, 53, 1)}, -1},
		{[]api.Sector{headed(1, 2, 53, 1), headed(2, 2, 53, 1)}, -1},
		{[]api.Sector{headed(0, 2, 53, 1), headed(1, 3, 53, 1)}, -1},
		{[]api.Sector{headed(0, 2, 53, 1), headed(1, 1, 53, 1)}, -1},
		{[]api.Sector{headed(0, 2, 53, 1), headed(1, 2, 53, 2)}, -1},
		{[]api.Sector{headed(0, 2, 53, 2), headed(1, 2, 53, 1)}, -1},
		{[]api.Sector{headed(0, 2, 53, 0), headed(1, 2, 53, 0)}, -1},
		{[]api.Sector{headed(0, 2, 53, 1), headed(1, 2, 53, 0)}, -1},
		{[]api.Sector{headed(0, 3, 53, 1), headed(1, 3, 53, 1)}, -1},
		{[]api.Sector{headed(0, 1, 53, 1), headed(1, 2, 53, 2)}, 53},
		{[]api.Sector{headed(0, 3, 53, 1), headed(1, 3, 53, 1), headed(2, 3, 9, 1)}, 115},
		{[]api.Sector{headed(0, 3, 53, 1), headed(1, 3, 50, 1), headed(2, 3, 9, 1)}, -1},
		{[]api.Sector{headed(0, 3, 53, 1), headed(1, 3, 53, 2), headed(2, 3, 9, 1)}, -1},
	} {
		d := disk.Blank(len(c.sectors))
		for at, s := range c.sectors {
			put(t, d, at, s)
		}
		if c.stands < 0 {
			wantNone(t, d, 0, len(c.sectors), noStamp)
			continue
		}
		many := int(c.sectors[0][1])
		wantRead(t, d, 0, len(c.sectors), make([]byte, c.stands), 1, many)
	}
}

// P9.2
func TestTop(t *testing.T) {
	d := disk.Blank(6)
	for at, number := range []uint64{0x0100, 0xff, 5, 0x0200000000000000, 0x0100ffffffffffff, 0} {
		var s api.Sector
		for i := range 56 {
			s[i] = 255 // what is before the stamp isn't told, and need not stand
		}
		for i := range 8 {
			s[56+i] = byte(number >> (8 * i))
		}
		put(t, d, at, s)
	}
	for _, c := range []struct {
		from, end int
		want      uint64
	}{
		{0, 1, 0x0100}, {0, 2, 0x0100}, {1, 2, 0xff}, {1, 3, 0xff}, {2, 3, 5}, {0, 3, 0x0100}, {0, 6, 0x0200000000000000},
		{2, 4, 0x0200000000000000}, {4, 6, 0x0100ffffffffffff}, {3, 5, 0x0200000000000000}, {5, 6, 0},
		{0, 0, 0}, {3, 3, 0}, {6, 6, 0}, {3, 2, 0}, {5, 0, 0}, {7, 7, 0}, {9, 7, 0}, {-1, -1, 0}, {-1, -2, 0}, {-5, least, 0},
		{greatest, greatest, 0}, {greatest, least, 0}, {least, least, 0}, {0, -1, 0}, {greatest, 0, 0},
	} {
		wantTop(t, d, c.from, c.end, c.want, ok)
	}
	for _, c := range [][2]int{
		{0, 7}, {3, 7}, {6, 7}, {5, 8}, {-1, 0}, {-1, 3}, {-1, 6}, {-2, -1}, {-1, 7}, {least, greatest}, {least, 0}, {least, least + 1},
		{0, greatest}, {6, greatest}, {greatest - 1, greatest}, {9, 10},
	} {
		wantTop(t, d, c[0], c[1], 0, noSector)
	}
	wantTop(t, disk.Blank(0), 0, 0, 0, ok)
	wantTop(t, disk.Blank(0), 0, 1, 0, noSector)
}

// P9.2: of a sector on its way, what it will have.
func TestTopOfTheQueue(t *testing.T) {
	d := disk.Blank(3)
	write(t, d, 0, 900, counted(159))
	wantErrno(t, "Flush", d.Flush(), ok)
	write(t, d, 1, 7, nil)
	wantTop(t, d, 1, 2, 7, ok)
	wantTop(t, d, 0, 3, 900, ok)
	write(t, d, 1, 1000, nil)
	wantTop(t, d, 0, 3, 1000, ok)
	d.Power()
	wantTop(t, d, 0, 3, 900, ok)
}

// P9.2: to read is no act, and changes nothing; a dead disk is read all the same.
func TestReadingIsNoAct(t *testing.T) {
	d := disk.Blank(4)
	write(t, d, 1, 6, counted(100))
	d.Fuse(0)
	for range 3 {
		wantRead(t, d, 1, 4, counted(100), 6, 2)
		wantNone(t, d, 0, 4, noStamp)
		wantNone(t, d, 0, 5, noSector)
		wantTop(t, d, 0, 4, 6, ok)
	}
	if q := d.Queue(); d.Dead() || !slices.Equal(q, []int{1, 2}) {
		t.Error("dead:", d.Dead(), "queue:", q)
	}
	wantErrno(t, "Flush", d.Flush(), noPower)
	wantRead(t, d, 1, 4, counted(100), 6, 2)
	wantTop(t, d, 0, 4, 6, ok)
}

// The rules of memory: nothing handed in is kept or written on, and answers share nothing.
func TestMemory(t *testing.T) {
	d := disk.Blank(4)
	room := counted(200)
	b := room[10:110]
	write(t, d, 0, 6, b)
	if !bytes.Equal(room, counted(200)) {
		t.Error("Write wrote on what it was handed")
	}
	want := bytes.Clone(b)
	clear(room)
	wantRead(t, d, 0, 4, want, 6, 2)
	one, _, _, _ := stamp.Read(d, 0, 4)
	other, _, _, _ := stamp.Read(d, 0, 4)
	clear(one[:cap(one)])
	if !bytes.Equal(other, want) {
		t.Error("two answers share memory")
	}
	wantRead(t, d, 0, 4, want, 6, 2)
}

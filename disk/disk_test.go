package disk_test

import (
	"bytes"
	"math"
	"slices"
	"strings"
	"testing"

	"falsework/api"
	"falsework/disk"
)

// The chapter's numbers, as numbers of their own.
const (
	ok         = api.Errno(0)
	noSector   = api.Errno(81)
	noPower    = api.Errno(82)
	sectorSize = 64
	most       = 2048
	least      = math.MinInt
	greatest   = math.MaxInt
	manyActs   = 3000
)

// The sections Errors and Limits: callers may hold the numbers themselves against an answer.
func TestNumbers(t *testing.T) {
	if api.ErrSector != noSector || api.ErrPower != noPower {
		t.Error("errors:", api.ErrSector, api.ErrPower)
	}
	if api.SectorSize != sectorSize || len(api.Sector{}) != sectorSize || api.MaxSectors != most {
		t.Error("limits:", api.SectorSize, len(api.Sector{}), api.MaxSectors)
	}
}

// of: a sector, each byte the one.
func of(c byte) api.Sector { return api.Sector(bytes.Repeat([]byte{c}, sectorSize)) }

// counted: a sector without two bytes that are the same.
func counted() api.Sector {
	var s api.Sector
	for i := range s {
		s[i] = byte(100 + i)
	}
	return s
}

// runs: "3a5n56." is a sector of three bytes a, then five as counted has them at their places, then 56 zeros.
func runs(text string) api.Sector {
	var b []byte
	for text != "" {
		n := 0
		for ; text[0] >= '0' && text[0] <= '9'; text = text[1:] {
			n = 10*n + int(text[0]-'0')
		}
		for range n {
			switch text[0] {
			case '.':
				b = append(b, 0)
			case 'n':
				b = append(b, counted()[len(b)])
			default:
				b = append(b, text[0])
			}
		}
		text = text[1:]
	}
	return api.Sector(b)
}

func put(t *testing.T, d *disk.Disk, at int, s api.Sector) {
	t.Helper()
	if e := d.Put(at, s); e != ok {
		t.Errorf("Put at %d: %d", at, e)
	}
}

func flush(t *testing.T, d *disk.Disk) {
	t.Helper()
	if e := d.Flush(); e != ok {
		t.Errorf("Flush: %d", e)
	}
}

func wantSector(t *testing.T, d *disk.Disk, at int, want api.Sector) {
	t.Helper()
	if s, e := d.Get(at); s != want || e != ok {
		t.Errorf("Get of %d: %q, %d; want %q", at, s, e, want)
	}
}

func wantQueue(t *testing.T, d *disk.Disk, want ...int) {
	t.Helper()
	if q := d.Queue(); !slices.Equal(q, want) {
		t.Errorf("Queue %v; want %v", q, want)
	}
}

func wantDead(t *testing.T, d *disk.Disk, want bool) {
	t.Helper()
	if d.Dead() != want {
		t.Errorf("Dead is %v", !want)
	}
}

func wantErrno(t *testing.T, what string, got, want api.Errno) {
	t.Helper()
	if got != want {
		t.Errorf("%s: %d; want %d", what, got, want)
	}
}

// P8.1
func TestBlank(t *testing.T) {
	for _, c := range []struct{ asked, size int }{
		{least, 0}, {-2049, 0}, {-1, 0}, {0, 0}, {1, 1}, {2, 2}, {5, 5}, {64, 64}, {1000, 1000},
		{most - 1, most - 1}, {most, most}, {most + 1, most}, {1 << 31, most}, {greatest, most},
	} {
		d := disk.Blank(c.asked)
		if d.Size() != c.size {
			t.Errorf("Blank of %d has %d", c.asked, d.Size())
		}
		for at := range c.size {
			wantSector(t, d, at, api.Sector{})
		}
		wantQueue(t, d)
		wantDead(t, d, false)
	}
}

// P8.1, P8.2: there are all sectors from 0 on, and no others, for Get and for Put.
func TestWhereSectorsAre(t *testing.T) {
	for _, size := range []int{0, 1, 5, 2048} {
		d := disk.Blank(size)
		for at := range size {
			put(t, d, at, of(byte(at+1)))
		}
		for _, at := range []int{least, least + 1, -2048, -64, -1, size, size + 1, 2049, 1 << 31, 1 << 32, greatest} {
			if s, e := d.Get(at); s != (api.Sector{}) || e != noSector {
				t.Errorf("%d has %d: %q, %d", size, at, s, e)
			}
			wantErrno(t, "Put outside", d.Put(at, of('x')), noSector)
		}
		if n := len(d.Queue()); n != size {
			t.Errorf("%d came to the queue of %d", n, size)
		}
		flush(t, d)
		for at := range size {
			wantSector(t, d, at, of(byte(at+1)))
		}
		if d.Size() != size {
			t.Errorf("%d became %d", size, d.Size())
		}
	}
}

// P8.1: without a fuse it lasts.
func TestBlankHasNoFuse(t *testing.T) {
	d := disk.Blank(1)
	for range manyActs {
		put(t, d, 0, of('a'))
		flush(t, d)
	}
	wantDead(t, d, false)
}

// P8.1
func TestGetTellsTheLastPut(t *testing.T) {
	d := disk.Blank(3)
	put(t, d, 1, of('a'))
	wantSector(t, d, 1, of('a'))
	put(t, d, 1, of('b'))
	wantSector(t, d, 1, of('b'))
	put(t, d, 2, counted())
	wantSector(t, d, 1, of('b'))
	wantSector(t, d, 2, counted())
	wantSector(t, d, 0, api.Sector{})
	flush(t, d)
	wantSector(t, d, 1, of('b'))
	put(t, d, 1, api.Sector{})
	wantSector(t, d, 1, api.Sector{})
	wantSector(t, d, 2, counted())
	d.Power()
	wantSector(t, d, 1, of('b'))
}

// P8.1
func TestQueueTellsTheEldestFirst(t *testing.T) {
	d := disk.Blank(5)
	wantQueue(t, d)
	for i, at := range []int{4, 2, 4, 0, 0, 4} {
		put(t, d, at, of('a'))
		wantQueue(t, d, []int{4, 2, 4, 0, 0, 4}[:i+1]...)
	}
	flush(t, d)
	wantQueue(t, d)
	put(t, d, 3, of('b'))
	wantQueue(t, d, 3)
}

// P8.1: a queue that was told, and is written over, is not the disk's own.
func TestQueueIsNewMemory(t *testing.T) {
	d := disk.Blank(3)
	for _, at := range []int{2, 0, 1} {
		put(t, d, at, of(byte('a'+at)))
	}
	first, second := d.Queue(), d.Queue()
	for _, q := range [][]int{first, second} {
		q = q[:cap(q)]
		for i := range q {
			q[i] -= 1000
		}
	}
	if !slices.Equal(first, []int{-998, -1000, -999}) {
		t.Error("two answers share memory:", first)
	}
	wantQueue(t, d, 2, 0, 1)
	put(t, d, 2, of('x'))
	wantQueue(t, d, 2, 0, 1, 2)
	told := d.Queue()
	d.Power(64, 64, 64)
	put(t, d, 1, of('y'))
	if !slices.Equal(told, []int{2, 0, 1, 2}) {
		t.Error("a queue that was told became", told)
	}
	wantSector(t, d, 2, of('c'))
	wantSector(t, d, 0, of('a'))
}

// P8.1, P8.2: a dead one still tells what it has.
func TestDeadTells(t *testing.T) {
	d := disk.Blank(3)
	put(t, d, 0, of('a'))
	flush(t, d)
	put(t, d, 0, of('b'))
	put(t, d, 2, of('c'))
	d.Fuse(0)
	wantErrno(t, "Put", d.Put(1, of('d')), noPower)
	wantDead(t, d, true)
	wantSector(t, d, 0, of('b'))
	wantSector(t, d, 1, api.Sector{})
	wantSector(t, d, 2, of('c'))
	if s, e := d.Get(3); s != (api.Sector{}) || e != noSector {
		t.Errorf("Get of 3: %q, %d", s, e)
	}
	wantQueue(t, d, 0, 2)
	if d.Size() != 3 {
		t.Error("Size", d.Size())
	}
}

// P8.2: a fuse of n lasts n acts, of either kind, and the one behind them is the end.
func TestFuse(t *testing.T) {
	for _, kinds := range []string{"p", "f", "pf", "fp", "ppf"} {
		for _, acts := range []int{0, 1, 2, 3, 7, 100} {
			d := disk.Blank(1)
			d.Fuse(acts)
			act := func(i int) api.Errno {
				if kinds[i%len(kinds)] == 'f' {
					return d.Flush()
				}
				return d.Put(0, of('a'))
			}
			for i := range acts {
				wantErrno(t, kinds, act(i), ok)
				wantDead(t, d, false)
			}
			for i := range 5 {
				wantErrno(t, kinds, act(acts+i), noPower)
				wantDead(t, d, true)
			}
		}
	}
}

// P8.2
func TestFuseTakesTheOthersPlace(t *testing.T) {
	d := disk.Blank(1)
	d.Fuse(5)
	flush(t, d)
	d.Fuse(1)
	flush(t, d)
	d.Fuse(2)
	flush(t, d)
	flush(t, d)
	for _, none := range []int{-1, -2, least} {
		d.Fuse(0)
		d.Fuse(none)
		for range manyActs {
			flush(t, d)
		}
	}
	d.Fuse(greatest)
	for range manyActs {
		flush(t, d)
	}
	d.Fuse(0)
	wantDead(t, d, false)
	wantErrno(t, "Flush", d.Flush(), noPower)
	wantDead(t, d, true)
}

// P8.2: only acts burn the fuse, and a Put where nothing is is none.
func TestWhatIsNoAct(t *testing.T) {
	d := disk.Blank(2)
	put(t, d, 0, of('a'))
	d.Fuse(1)
	idle := func() {
		for range 3 {
			d.Size()
			d.Get(0)
			d.Get(-1)
			d.Queue()
			d.Dead()
			wantErrno(t, "Put outside", d.Put(2, of('b')), noSector)
			wantErrno(t, "Put outside", d.Put(-1, of('b')), noSector)
		}
	}
	idle()
	wantQueue(t, d, 0)
	put(t, d, 1, of('c'))
	idle()
	wantDead(t, d, false)
	wantErrno(t, "Put", d.Put(0, of('d')), noPower)
	idle()
	wantDead(t, d, true)
	wantQueue(t, d, 0, 1)
}

// P8.2: what a dead one is asked to do isn't done, and a new fuse does not wake it.
func TestDeadDoesNothing(t *testing.T) {
	d := disk.Blank(2)
	put(t, d, 0, of('a'))
	flush(t, d)
	put(t, d, 0, of('b'))
	d.Fuse(0)
	for _, fuse := range []int{0, 5, -1, greatest, least} {
		wantErrno(t, "Flush", d.Flush(), noPower)
		wantErrno(t, "Put", d.Put(0, of('c')), noPower)
		wantErrno(t, "Put", d.Put(1, of('c')), noPower)
		wantQueue(t, d, 0)
		wantSector(t, d, 0, of('b'))
		wantSector(t, d, 1, api.Sector{})
		d.Fuse(fuse)
		wantDead(t, d, true)
	}
	d.Power()
	wantSector(t, d, 0, of('a'))
	wantSector(t, d, 1, api.Sector{})
}

// P8.2
func TestFlush(t *testing.T) {
	d := disk.Blank(4)
	flush(t, d)
	put(t, d, 1, of('a'))
	put(t, d, 3, counted())
	put(t, d, 1, of('b'))
	put(t, d, 0, of('c'))
	put(t, d, 1, of('d'))
	put(t, d, 0, api.Sector{})
	flush(t, d)
	wantQueue(t, d)
	d.Power()
	wantSector(t, d, 0, api.Sector{})
	wantSector(t, d, 1, of('d'))
	wantSector(t, d, 2, api.Sector{})
	wantSector(t, d, 3, counted())
}

// P8.2: a disk without sectors burns its fuse by Flush alone.
func TestNoSectorsAtAll(t *testing.T) {
	d := disk.Blank(0)
	d.Fuse(1)
	wantErrno(t, "Put", d.Put(0, of('a')), noSector)
	flush(t, d)
	wantErrno(t, "Flush", d.Flush(), noPower)
	wantErrno(t, "Put", d.Put(0, of('a')), noSector)
	wantDead(t, d, true)
	d.Power(1, 2, 3)
	wantDead(t, d, false)
	flush(t, d)
}

// P8.2: what was Put is the sector's own, though who Put it writes on.
func TestPutKeepsNothingOfIts(t *testing.T) {
	d := disk.Blank(1)
	s := of('a')
	put(t, d, 0, s)
	s[5] = 'x'
	wantSector(t, d, 0, of('a'))
	told, _ := d.Get(0)
	told[6] = 'y'
	flush(t, d)
	wantSector(t, d, 0, of('a'))
}

// P8.3: one sector on its way, over zeros and over other bytes.
func TestPowerOfOne(t *testing.T) {
	for _, c := range []struct {
		keep []int
		want string
	}{
		{nil, "64."}, {[]int{}, "64."}, {[]int{0}, "64."}, {[]int{1}, "1n63."}, {[]int{3}, "3n61."},
		{[]int{31}, "31n33."}, {[]int{63}, "63n1."}, {[]int{64}, "64n"}, {[]int{65}, "64n"}, {[]int{greatest}, "64n"},
		{[]int{-1}, "64."}, {[]int{-64}, "64."}, {[]int{least}, "64."},
		{[]int{5, 64}, "5n59."}, {[]int{0, 64, 64}, "64."},
	} {
		for _, base := range []string{".", "o"} {
			want := runs(strings.ReplaceAll(c.want, ".", base))
			d := disk.Blank(3)
			put(t, d, 1, runs("64"+base))
			flush(t, d)
			put(t, d, 1, counted())
			keep := slices.Clone(c.keep)
			d.Power(keep...)
			if s, e := d.Get(1); s != want || e != ok {
				t.Errorf("Power with %v: %q, %d; want %q", c.keep, s, e, want)
			}
			if !slices.Equal(keep, c.keep) {
				t.Errorf("Power with %v wrote on it: %v", c.keep, keep)
			}
			wantQueue(t, d)
			wantSector(t, d, 0, api.Sector{})
			wantSector(t, d, 2, api.Sector{})
		}
	}
}

// P8.3: keep's numbers are those of the queue's places, not of the sectors; what goes in later lies above.
func TestPowerOfMany(t *testing.T) {
	for _, c := range []struct {
		ats   []int
		keep  []int
		wants []string
	}{
		{[]int{0, 1, 2}, nil, []string{"64o", "64o", "64o"}},
		{[]int{0, 1, 2}, []int{64, 64, 64}, []string{"64a", "64b", "64c"}},
		{[]int{0, 1, 2}, []int{64, 64}, []string{"64a", "64b", "64o"}},
		{[]int{0, 1, 2}, []int{0, 7, 64}, []string{"64o", "7b57o", "64c"}},
		{[]int{2, 0, 1}, []int{1, 2, 3}, []string{"2b62o", "3c61o", "1a63o"}},
		{[]int{2, 0, 1}, []int{100, -5, 63}, []string{"64o", "63c1o", "64a"}},
		{[]int{1, 1, 1}, []int{30, 20, 10}, []string{"64o", "10c10b10a34o", "64o"}},
		{[]int{1, 1, 1}, []int{10, 20, 30}, []string{"64o", "30c34o", "64o"}},
		{[]int{1, 1, 1}, []int{20, 0, 10}, []string{"64o", "10c10a44o", "64o"}},
		{[]int{1, 1, 1}, []int{0, 5}, []string{"64o", "5b59o", "64o"}},
		{[]int{1, 1, 1}, []int{0, 0, 5}, []string{"64o", "5c59o", "64o"}},
		{[]int{1, 1, 1}, []int{-1, 64, 1}, []string{"64o", "1c63b", "64o"}},
		{[]int{1, 0, 1, 2, 1}, []int{40, 9, 30, 8, 20}, []string{"9b55o", "20e10c10a24o", "8d56o"}},
		{[]int{2, 2, 0, 0}, []int{64, 10, 12, 64, 64, 64}, []string{"64d", "64o", "10b54a"}},
	} {
		d := disk.Blank(3)
		for at := range 3 {
			put(t, d, at, of('o'))
		}
		flush(t, d)
		for k, at := range c.ats {
			put(t, d, at, of(byte('a'+k)))
		}
		d.Power(c.keep...)
		wantQueue(t, d)
		for at, want := range c.wants {
			if s, _ := d.Get(at); s != runs(want) {
				t.Errorf("%v with %v: %d is %q; want %s", c.ats, c.keep, at, s, want)
			}
		}
	}
}

// P8.3: what came in stays, whatever comes behind it.
func TestPowerTwice(t *testing.T) {
	d := disk.Blank(2)
	put(t, d, 0, of('a'))
	d.Power(10)
	wantSector(t, d, 0, runs("10a54."))
	d.Power(64, 64)
	d.Power()
	wantSector(t, d, 0, runs("10a54."))
	put(t, d, 0, of('b'))
	put(t, d, 1, of('c'))
	wantSector(t, d, 0, of('b'))
	d.Power(4, 2)
	wantSector(t, d, 0, runs("4b6a54."))
	wantSector(t, d, 1, runs("2c62."))
}

// P8.3: it lives again, and has no fuse any more.
func TestPowerWakes(t *testing.T) {
	for _, acts := range []int{0, 1, 2, -1, greatest} {
		for _, done := range []int{0, 1, 5} {
			d := disk.Blank(2)
			d.Fuse(acts)
			for range done {
				d.Flush()
			}
			d.Power()
			wantDead(t, d, false)
			for range 10 {
				put(t, d, 1, of('a'))
				flush(t, d)
			}
			wantDead(t, d, false)
			wantSector(t, d, 1, of('a'))
			d.Fuse(0)
			wantErrno(t, "Flush", d.Flush(), noPower)
		}
	}
}

// P8.3: a new fuse that a dead one got is gone too.
func TestPowerTakesTheFuseOfADeadOne(t *testing.T) {
	d := disk.Blank(1)
	d.Fuse(0)
	wantErrno(t, "Flush", d.Flush(), noPower)
	d.Fuse(1)
	d.Power()
	for range 5 {
		flush(t, d)
	}
}

// P8.2, P8.3: the Put that the fuse cut off was never on its way.
func TestPowerBehindACutPut(t *testing.T) {
	d := disk.Blank(2)
	d.Fuse(1)
	put(t, d, 0, of('a'))
	wantErrno(t, "Put", d.Put(0, of('b')), noPower)
	wantErrno(t, "Put", d.Put(1, of('c')), noPower)
	d.Power(64, 64, 64)
	wantSector(t, d, 0, of('a'))
	wantSector(t, d, 1, api.Sector{})
}

// The rule that an object is what was done to it alone: two disks share nothing.
func TestTwoDisks(t *testing.T) {
	a, b := disk.Blank(2), disk.Blank(2)
	put(t, a, 0, of('a'))
	a.Fuse(0)
	a.Flush()
	wantQueue(t, b)
	wantDead(t, b, false)
	flush(t, b)
	wantSector(t, b, 0, api.Sector{})
	put(t, b, 1, of('b'))
	a.Power(64)
	wantSector(t, a, 0, of('a'))
	wantSector(t, a, 1, api.Sector{})
	wantQueue(t, b, 1)
}

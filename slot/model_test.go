package slot_test

import (
	"bytes"
	"encoding/binary"
	"fmt"
	"slices"
	"testing"

	"falsework/api"
	"falsework/disk"
	"falsework/mixer"
	"falsework/slot"
	"falsework/stamp"
)

func numberOf(s api.Sector) uint64 { return binary.LittleEndian.Uint64(s[56:]) }

// modelStanding: what stands in a place, laid anew to see whether it makes what is there; 0, if nothing does.
func modelStanding(place []api.Sector, odd uint64) (content []byte, generation uint64) {
	generation = numberOf(place[0])
	many := int(place[0][1])
	if many == 0 || many > len(place) || generation%2 != odd {
		return nil, 0
	}
	var all []byte
	for _, s := range place[:many] {
		all = append(all, s[3:56]...)
	}
	n := inner*(many-1) + int(place[many-1][2]) - 4
	if n < 0 || n+4 > len(all) {
		return nil, 0
	}
	anew := disk.Blank(many)
	stamp.Write(anew, 0, generation, closed(all[:n]))
	if !slices.Equal(contents(anew), place[:many]) {
		return nil, 0
	}
	return all[:n], generation
}

// modelRead: the generation is 0, if nothing counts.
func modelRead(sectors []api.Sector) ([]byte, uint64) {
	size := len(sectors) / 2
	even, two := modelStanding(sectors[:size], 0)
	odd, one := modelStanding(sectors[size:], 1)
	if one > two {
		return odd, one
	}
	return even, two
}

// modelNext counts on till a number is right.
func modelNext(sectors []api.Sector) uint64 {
	next := uint64(1)
	for _, s := range sectors {
		next = max(next, numberOf(s)+1)
	}
	_, counts := modelRead(sectors)
	for counts > 0 && next%2 == counts%2 {
		next++
	}
	return next
}

// sameAsModel: Read and Next of these places; how far the generation is from the next one, 0 if there is none.
func sameAsModel(t *testing.T, d *disk.Disk, from, size int) uint64 {
	t.Helper()
	sectors := contents(d)[from : from+2*size]
	content, generation := modelRead(sectors)
	next := modelNext(sectors)
	wantNext(t, d, from, size, next)
	if generation == 0 {
		wantNothing(t, d, from, size)
		return 0
	}
	wantRead(t, d, from, size, content, generation)
	return next - generation
}

// spoil does something to a disk that no Write does.
func spoil(m *mixer.Mixer, d *disk.Disk, from, size int) {
	at := m.UpTo(d.Size())
	switch m.UpTo(6) {
	case 0:
		s, _ := d.Get(at)
		s[m.UpTo(sectorSize)] ^= 1 << m.UpTo(8)
		d.Put(at, s)
	case 1:
		stamp.Write(d, at, uint64(m.UpTo(20)), m.Bytes(m.UpTo(120)))
	case 2:
		stamp.Write(d, from+m.UpTo(2)*size, 1+uint64(m.UpTo(20)), closed(m.Bytes(m.UpTo(120))))
	case 3:
		d.Power(m.Keeps(8)...)
	case 4:
		d.Fuse(m.UpTo(4))
	}
}

// P11.1, P11.2: whatever lies there.
func TestAskingByModel(t *testing.T) {
	m := mixer.Mixer(111)
	var seen [3]int
	for range 1500 {
		d := disk.Blank(2 + m.UpTo(12))
		for range 20 {
			size := 1 + m.UpTo(d.Size()/2)
			from := m.UpTo(d.Size() - 2*size + 1)
			// The one is as odd as the other isn't: they are 1 apart, or 3, or more.
			seen[min((1+sameAsModel(t, d, from, size))/2, 2)]++
			slot.Write(d, from, size, m.Bytes(m.UpTo(size*inner)))
			spoil(&m, d, from, size)
		}
		if t.Failed() {
			t.Fatalf("the disk has %v", contents(d))
		}
	}
	// Else what lay there would show nothing.
	if slices.Min(seen[:]) < 500 {
		t.Error("nothing, and next ones that are 1 above what counts, and more:", seen)
	}
}

// P11.3: rows of calls, each held against what the model tells before it.
func TestWriteByModel(t *testing.T) {
	m := mixer.Mixer(112)
	for range 150 {
		size := 1 + m.UpTo(mostSize)>>m.UpTo(9)
		from := m.UpTo(5)
		d := disk.Blank(from + 2*size + m.UpTo(5))
		number(t, d, from+m.UpTo(2*size), m.Next()>>(2+m.Next()%62))
		for range 12 {
			b := m.Bytes(m.UpTo(size*inner + 40))
			before := contents(d)
			next := modelNext(before[from : from+2*size])
			many := spanOf(b)
			if many > size {
				wantWriteError(t, d, from, size, b, noSlot)
				wantSame(t, contents(d), before)
				continue
			}
			write(t, d, from, size, b, next)
			anew := disk.Blank(many)
			stamp.Write(anew, 0, next, closed(b))
			copy(before[from+int(next%2)*size:], contents(anew))
			wantSame(t, contents(d), before)
			wantRead(t, d, from, size, b, next)
		}
		if t.Failed() {
			t.Fatalf("%d from %d on %d", size, from, d.Size())
		}
	}
}

func wantSame(t *testing.T, got, want []api.Sector) {
	t.Helper()
	for at := range want {
		if got[at] != want[at] {
			t.Errorf("%d has %v; want %v", at, got[at], want[at])
		}
	}
}

// told is what Read tells.
type told struct {
	content    string
	generation uint64
	e          api.Errno
}

func (v told) String() string { return fmt.Sprintf("%+q, %d, %d", v.content, v.generation, v.e) }

func tell(d *disk.Disk, from, size int) told {
	c, g, e := slot.Read(d, from, size)
	return told{string(c), g, e}
}

// P11.4: many lives on one disk, each ended by a crash in the midst of a Write, or by none.
func TestCrashes(t *testing.T) {
	m := mixer.Mixer(113)
	var seen [4]int
	for range 1500 {
		size := 1 + m.UpTo(5)
		d := disk.Blank(2*size + 2)
		crashed := false
		for range 30 {
			end := writeAndCrash(t, &m, d, size, crashed)
			seen[end]++
			crashed = crashed || end != quiet
		}
		if s := contents(d); s[0] != (api.Sector{}) || s[2*size+1] != (api.Sector{}) {
			t.Fatal("a sector outside was written")
		}
	}
	// Else the crashes above would show nothing.
	if min(seen[quiet], seen[gone], seen[whole]) < 2000 || seen[between] == 0 {
		t.Error("not cut off, gone, whole, and whole with a number between:", seen)
	}
}

// How a Write ends.
const (
	quiet   = iota // not cut off
	gone           // Read tells what it told before it
	whole          // Read tells what it has
	between        // the same, with a number between
)

// writeAndCrash: behind a first crash Read tells just what the Write would have answered. Behind more of them a number that was
// cut off before may lie under the content, or parts of two numbers make one: then it is the content alone that is sure.
func writeAndCrash(t *testing.T, m *mixer.Mixer, d *disk.Disk, size int, crashed bool) int {
	before := tell(d, 1, size)
	next := modelNext(contents(d)[1 : 1+2*size])
	b := m.Bytes(m.UpTo(size*inner - 3))
	made := told{string(b), next, ok}
	d.Fuse(m.UpTo(9))
	g, e := slot.Write(d, 1, size, b)
	d.Power(m.Keeps(5)...)
	switch got := tell(d, 1, size); {
	case e == ok && g == next && got == made:
		return quiet
	case e == noPower && g == 0 && got == made:
		return whole
	case e == noPower && g == 0 && got == before:
		return gone
	case e == noPower && g == 0 && crashed && got.content == made.content && got.generation > before.generation && got.generation < next:
		return between
	default:
		t.Fatalf("before: %v, the Write: %v, answered %d, %d, told: %v", before, made, g, e, got)
		return gone
	}
}

// P11.4: of a content of two sectors, each pair of how many bytes come in, over what some Writes left there, at numbers whose bytes carry.
func TestCutOffEverywhere(t *testing.T) {
	for _, writes := range []int{0, 1, 2, 3, 4, 0xfe, 0xff, 0x0100, 0x0101} {
		for old := range 2 {
			for first := range sectorSize + 1 {
				for second := range sectorSize + 1 {
					cutOff(t, writes, 60*old+2, first, second)
				}
			}
		}
	}
}

func cutOff(t *testing.T, writes, n, first, second int) {
	t.Helper()
	d := disk.Blank(4)
	// The last two of so many Writes are what all of them leave there.
	for generation := max(1, writes-1); generation <= writes; generation++ {
		lay(t, d, 2*(generation%2), uint64(generation), bytes.Repeat([]byte{'o'}, n))
	}
	before := tell(d, 0, 2)
	d.Fuse(2)
	wantWriteError(t, d, 0, 2, counted(60), noPower)
	d.Power(first, second)
	new := told{string(counted(60)), uint64(writes + 1), ok}
	for range 2 {
		got := tell(d, 0, 2)
		if got != new && (first == sectorSize && second == sectorSize || got != before) {
			t.Fatalf("%d and %d bytes behind %d Writes: %v", first, second, writes, got)
		}
	}
	// What comes behind it is whole again.
	next := modelNext(contents(d))
	write(t, d, 0, 2, []byte("behind"), next)
	wantRead(t, d, 0, 2, []byte("behind"), next)
}

// P11.4: Writes of which a part alone came in, many in a row, take nothing away, and one that isn't cut off counts then.
func TestCrashesInARow(t *testing.T) {
	for writes := 1; writes <= 2; writes++ {
		d := disk.Blank(4)
		for i := range writes {
			write(t, d, 0, 2, counted(60+i), uint64(i+1))
		}
		before, top := tell(d, 0, 2), uint64(writes)
		for i := range 600 {
			top += 1 + uint64(min(i, 1))
			wantNext(t, d, 0, 2, top)
			d.Fuse(2)
			wantWriteError(t, d, 0, 2, counted(70), noPower)
			// Of the first sector no byte of the number comes in.
			d.Power(i%57, sectorSize)
			if got := tell(d, 0, 2); got != before || t.Failed() {
				t.Fatalf("behind %d crashes: %v", i+1, got)
			}
		}
		write(t, d, 0, 2, []byte("new"), top+2)
		wantRead(t, d, 0, 2, []byte("new"), top+2)
		write(t, d, 0, 2, []byte("newer"), top+3)
	}
}

// P11.4, P11.2: a content that stands with a number between is what counts, and the next Write leaves it alone.
func TestNumberBetween(t *testing.T) {
	for _, keep := range []int{56, 57} {
		d := disk.Blank(4)
		lay(t, d, 0, 0x0104, []byte("elder"))
		lay(t, d, 2, 0x0105, []byte("old"))
		if keep == 56 {
			number(t, d, 0, 0x0106) // of a Write that was cut off, of more sectors
		}
		number(t, d, 1, 0x0204)
		d.Fuse(1)
		wantWriteError(t, d, 0, 2, []byte("new"), noPower)
		d.Power(keep)
		wantRead(t, d, 0, 2, []byte("new"), 0x0106)
		write(t, d, 0, 2, []byte("newer"), 0x0205)
		wantRead(t, d, 0, 2, []byte("newer"), 0x0205)
		number(t, d, 2, 1)
		wantRead(t, d, 0, 2, []byte("new"), 0x0106)
	}
}

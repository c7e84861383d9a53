package stamp_test

import (
	"bytes"
	"encoding/binary"
	"slices"
	"testing"

	"falsework/api"
	"falsework/disk"
	"falsework/mixer"
	"falsework/stamp"
)

// modelSpan counts the sectors one by one.
func modelSpan(n int) int {
	many := 1
	for n > many*inner {
		many++
	}
	return many
}

// modelSector is the chapter's own words of the i-th one.
func modelSector(i int, number uint64, b []byte) api.Sector {
	many := modelSpan(len(b))
	size := inner
	if i == many-1 {
		size = len(b) - inner*(many-1)
	}
	s := []byte{byte(i), byte(many), byte(size)}
	s = append(s, b[inner*i:inner*i+size]...)
	s = append(s, make([]byte, inner-size)...)
	return api.Sector(binary.LittleEndian.AppendUint64(s, number))
}

func numberOf(s api.Sector) uint64 { return binary.LittleEndian.Uint64(s[56:]) }

// modelRead lays all lengths that there can be, to see whether it makes what is there.
func modelRead(sectors []api.Sector) (b []byte, number uint64, many int) {
	if len(sectors) == 0 || numberOf(sectors[0]) == 0 {
		return nil, 0, 0
	}
	number = numberOf(sectors[0])
	var all []byte
	for _, s := range sectors {
		all = append(all, s[3:56]...)
	}
	for n := range len(all) + 1 {
		many = modelSpan(n)
		same := true
		for i := range many {
			same = same && sectors[i] == modelSector(i, number, all[:n])
		}
		if same {
			return all[:n], number, many
		}
	}
	return nil, 0, 0
}

func sectorsFrom(d *disk.Disk, at, end int) []api.Sector {
	var sectors []api.Sector
	for ; at < end; at++ {
		s, _ := d.Get(at)
		sectors = append(sectors, s)
	}
	return sectors
}

// sameAsModel: Read and Top, from wherever, up to wherever.
func sameAsModel(t *testing.T, d *disk.Disk) {
	t.Helper()
	for at := range d.Size() + 2 {
		for end := range d.Size() + 1 {
			sectors := sectorsFrom(d, at, end)
			var top uint64
			for _, s := range sectors {
				top = max(top, numberOf(s))
			}
			wantTop(t, d, at, end, top, ok)
			if b, number, many := modelRead(sectors); many > 0 {
				wantRead(t, d, at, end, b, number, many)
			} else {
				wantNone(t, d, at, end, noStamp)
			}
		}
	}
}

// P9.1: all lengths.
func TestSpanByModel(t *testing.T) {
	for n := range mostBytes + 1 {
		if got := stamp.Span(n); got != modelSpan(n) {
			t.Fatalf("Span of %d is %d", n, got)
		}
	}
	for n := mostBytes + 1; n < 70000; n++ {
		if got := stamp.Span(n); got != 0 {
			t.Fatalf("Span of %d is %d", n, got)
		}
	}
}

// P9.1, P9.2: all lengths up to some sectors, and some longer ones.
func TestWriteByModel(t *testing.T) {
	m := mixer.Mixer(91)
	lengths := make([]int, 0, 600)
	for n := range 400 {
		lengths = append(lengths, n)
	}
	for range 100 {
		lengths = append(lengths, m.UpTo(mostBytes+1))
	}
	for _, n := range lengths {
		b := m.Bytes(n)
		number := max(1, m.Next()>>(m.Next()%64))
		many, before := modelSpan(n), m.UpTo(4)
		d := disk.Blank(before + many + m.UpTo(4))
		write(t, d, before, number, b)
		for at := range d.Size() {
			var want api.Sector
			if at >= before && at < before+many {
				want = modelSector(at-before, number, b)
			}
			if s, _ := d.Get(at); s != want {
				t.Fatalf("%d bytes: %d is %v; want %v", n, at, s, want)
			}
		}
		wantRead(t, d, before, d.Size(), b, number, many)
	}
}

// P9.2: whatever lies there: Writes over one another, crashes, and sectors with a byte or so that is another one.
func TestReadByModel(t *testing.T) {
	m := mixer.Mixer(92)
	for range 1500 {
		d := disk.Blank(1 + m.UpTo(5))
		for range m.UpTo(9) {
			switch at := m.UpTo(d.Size()); m.UpTo(6) {
			case 0:
				s, _ := d.Get(at)
				s[m.UpTo(sectorSize)] = byte(m.UpTo(5))
				put(t, d, at, s)
			case 1:
				s, _ := d.Get(at)
				s[m.UpTo(3)] = byte(m.UpTo(70))
				put(t, d, at, s)
			case 2:
				d.Power(m.UpTo(70), m.UpTo(70), m.UpTo(70), m.UpTo(70))
			default:
				stamp.Write(d, at, uint64(m.UpTo(3)), m.Bytes(m.UpTo(120)))
			}
		}
		sameAsModel(t, d)
	}
}

// older: bytes on many sectors, with numbers up to the greatest that is asked for.
func older(m *mixer.Mixer, d *disk.Disk, greatestNumber uint64) {
	for range 1 + m.UpTo(6) {
		number := 1 + m.Next()%greatestNumber
		stamp.Write(d, m.UpTo(d.Size()), number, m.Bytes(m.UpTo(250)))
		d.Power(m.Keep(), m.Keep(), m.Keep(), m.Keep(), m.Keep())
	}
}

// P9.3: what is read behind a crash, with a stamp above all that were there, is what was written last.
func TestCutOff(t *testing.T) {
	m := mixer.Mixer(93)
	whole, none, mixed := 0, 0, 0
	for range 30000 {
		d := disk.Blank(6)
		older(&m, d, 1+m.Next()>>(m.Next()%62+1))
		floor, _ := stamp.Top(d, 0, 6)
		number := floor + 1 + m.Next()>>(m.Next()%62+2)
		b := m.Bytes(m.UpTo(250))
		at := m.UpTo(7 - modelSpan(len(b)))
		d.Fuse(m.UpTo(7) - 1)
		stamp.Write(d, at, number, b)
		d.Power(m.Keep(), m.Keep(), m.Keep(), m.Keep(), m.Keep())
		got, told, many, e := stamp.Read(d, at, 6)
		switch {
		case e != ok || told <= floor:
			none++
		case !bytes.Equal(got, b) || many != modelSpan(len(b)):
			t.Fatalf("%d bytes %q with %d over %d: read are %q with %d", len(b), b, number, floor, got, told)
		case told == number:
			whole++
		default:
			mixed++
		}
	}
	// Else the crashes above would show nothing.
	if whole < 1000 || none < 1000 || mixed < 100 {
		t.Error("whole:", whole, "none:", none, "with a number of both:", mixed)
	}
}

// P9.3: of two sectors, each pair of how many bytes of them come in.
func TestCutOffEverywhere(t *testing.T) {
	for _, n := range []int{54, 80, 106} {
		for first := range sectorSize + 1 {
			for second := range sectorSize + 1 {
				d := disk.Blank(2)
				write(t, d, 0, 0x0105, bytes.Repeat([]byte{'o'}, n))
				wantErrno(t, "Flush", d.Flush(), ok)
				write(t, d, 0, 0x0107, bytes.Repeat([]byte{'n'}, n))
				d.Power(first, second)
				// The numbers part in the lowest byte alone, which lies at 56.
				switch {
				case first > 56 && second > 56:
					wantRead(t, d, 0, 2, bytes.Repeat([]byte{'n'}, n), 0x0107, 2)
				case first > 56 || second > 56:
					wantNone(t, d, 0, 2, noStamp)
				default:
					got, number, _, e := stamp.Read(d, 0, 2)
					if e != ok || number != 0x0105 || len(got) != n {
						t.Fatalf("%d and %d of %d: %q, %d, %d", first, second, n, got, number, e)
					}
				}
			}
		}
	}
}

// P9.3: a crash within the stamp leaves a number of both: the bytes are those of the Write all the same.
func TestCutOffWithinTheStamp(t *testing.T) {
	d := disk.Blank(1)
	write(t, d, 0, 0x0101, counted(40))
	wantErrno(t, "Flush", d.Flush(), ok)
	write(t, d, 0, 0x0203, []byte("new"))
	d.Power(57)
	wantRead(t, d, 0, 1, []byte("new"), 0x0103, 1)
	d.Power(64)
	wantRead(t, d, 0, 1, []byte("new"), 0x0103, 1)
}

// P9.1, P9.3: a whole Write that came in is there.
func TestNotCutOff(t *testing.T) {
	m := mixer.Mixer(94)
	for range 300 {
		d := disk.Blank(6)
		older(&m, d, 50)
		b := m.Bytes(m.UpTo(319))
		at := m.UpTo(7 - modelSpan(len(b)))
		write(t, d, at, 51, b)
		d.Power(slices.Repeat([]int{sectorSize}, modelSpan(len(b)))...)
		wantRead(t, d, at, 6, b, 51, modelSpan(len(b)))
		wantTop(t, d, 0, 6, 51, ok)
	}
}

package pack_test

import (
	"bytes"
	"encoding/binary"
	"math"
	"testing"

	"falsework/api"
	"falsework/mixer"
	"falsework/pack"
)

// Here what is added and taken is held against package encoding/binary, and against the promise's own words.

// modelNum is the promise's own words: parts of seven bits, the lowest first.
func modelNum(n uint64) []byte {
	out := []byte{byte(n % 128)}
	for n /= 128; n > 0; n /= 128 {
		out[len(out)-1] += 128
		out = append(out, byte(n%128))
	}
	return out
}

// modelFold is the promise's own words, with twice the number made by adding it to itself.
func modelFold(n int64) uint64 {
	if n >= 0 {
		return uint64(n) + uint64(n)
	}
	other := uint64(-1 - n)
	return other + other + 1
}

// mixedNumber takes all counts of bits alike.
func mixedNumber(m *mixer.Mixer) uint64 {
	return m.Next() >> (m.Next() % 64)
}

func checkNumbers(t *testing.T, n uint64, i int64) {
	t.Helper()
	bits := math.Float64frombits(n)
	check(t, "Num", pack.Num(nil, n), modelNum(n))
	check(t, "Num", pack.Num(nil, n), binary.AppendUvarint(nil, n))
	check(t, "Int", pack.Int(nil, i), modelNum(modelFold(i)))
	check(t, "Int", pack.Int(nil, i), binary.AppendVarint(nil, i))
	check(t, "Float", pack.Float(nil, bits), binary.LittleEndian.AppendUint64(nil, n))
}

// P6.1
func TestNumbersByModel(t *testing.T) {
	for n := range int64(70000) {
		checkNumbers(t, uint64(n), n)
		checkNumbers(t, -uint64(n), -n)
	}
	for shift := range 64 {
		for step := uint64(0); step < 5; step++ {
			n := uint64(1)<<shift + step - 2
			checkNumbers(t, n, int64(n))
		}
	}
	m := mixer.Mixer(61)
	for range 50000 {
		checkNumbers(t, mixedNumber(&m), m.AnySize())
	}
}

// modelTake: how many bytes the number has with which these begin, if some number's bytes are just these.
func modelTake(b []byte) (n uint64, count int) {
	n, count = binary.Uvarint(b)
	if count <= 0 || !bytes.Equal(modelNum(n), b[:count]) {
		return 0, 0
	}
	return n, count
}

// checkTake: Num, Int and Small of bytes against the model.
func checkTake(t *testing.T, b []byte, small uint64) {
	t.Helper()
	n, count := modelTake(b)
	left := len(b) - count
	if count == 0 {
		left = 0
	}
	r := pack.New(b)
	if got := r.Num(); got != n || r.Left() != left || r.Ended() != (count > 0 && left == 0) {
		t.Errorf("Num of %v = %d, %d left; want %d, %d", b, got, r.Left(), n, left)
	}
	r = pack.New(b)
	if got := r.Int(); modelFold(got) != n || r.Left() != left || r.Ended() != (count > 0 && left == 0) {
		t.Errorf("Int of %v = %d, %d left; want the one of %d, %d", b, got, r.Left(), n, left)
	}
	if n > small || n > 1<<31 {
		n, left, count = 0, 0, 0
	}
	r = pack.New(b)
	if got := r.Small(small); uint64(got) != n || r.Left() != left || r.Ended() != (count > 0 && left == 0) {
		t.Errorf("Small(%d) of %v = %d, %d left; want %d, %d", small, b, got, r.Left(), n, left)
	}
}

// P6.2, P6.3: all there are of one and of two bytes, and of three those whose first one is at an edge.
func TestShortBytesByModel(t *testing.T) {
	for x := range 256 {
		checkTake(t, []byte{byte(x)}, 100)
		for y := range 256 {
			checkTake(t, []byte{byte(x), byte(y)}, 5000)
			for _, first := range []byte{0, 127, 128, 255} {
				checkTake(t, []byte{first, byte(x), byte(y)}, 100000)
			}
		}
	}
}

// mixedLong: bytes of which most go on, so that numbers of eight to eleven bytes come up.
func mixedLong(m *mixer.Mixer) []byte {
	b := make([]byte, 7+m.Next()%6)
	for i := range b {
		b[i] = byte(m.Next()) | 128
	}
	last := 6 + m.Next()%uint64(len(b)-6)
	b[last] = byte(m.Next() % 4)
	if m.Next()%4 == 0 {
		b[last] = byte(m.Next())
	}
	return b
}

// P6.2, P6.3
func TestLongBytesByModel(t *testing.T) {
	m := mixer.Mixer(62)
	for range 200000 {
		checkTake(t, mixedLong(&m), mixedNumber(&m))
	}
	for count := range 12 {
		for last := range 256 {
			checkTake(t, high(count, byte(last)), math.MaxUint64)
			checkTake(t, full(count, byte(last)), 1<<31)
		}
	}
}

// thing is what was added, of one of the kinds.
type thing struct {
	kind int
	n    uint64
	text string
}

func mixedThing(m *mixer.Mixer) thing {
	x := thing{kind: int(m.Next() % 5), n: mixedNumber(m)}
	switch x.kind {
	case 2:
		x.n %= 1<<31 + 1
	case 3:
		text := make([]byte, m.Next()%300)
		for i := range text {
			text[i] = byte(m.Next())
		}
		x.n, x.text = 0, string(text)
	case 4:
		x.n = m.Next()
	}
	return x
}

func (x thing) add(b []byte) []byte {
	switch x.kind {
	case 0, 2:
		return pack.Num(b, x.n)
	case 1:
		return pack.Int(b, int64(x.n))
	case 3:
		out, _ := pack.Text(b, x.text)
		return out
	}
	return pack.Float(b, math.Float64frombits(x.n))
}

func take(r *pack.Reader, kind int) thing {
	x := thing{kind: kind}
	switch kind {
	case 0:
		x.n = r.Num()
	case 1:
		x.n = uint64(r.Int())
	case 2:
		x.n = uint64(r.Small(math.MaxUint64))
	case 3:
		x.text = r.Text()
	default:
		x.n = math.Float64bits(r.Float())
	}
	return x
}

// P6.3: what is added is taken again, to the last byte.
func TestWhatIsAddedIsTaken(t *testing.T) {
	m := mixer.Mixer(63)
	for range 3000 {
		var b []byte
		things := make([]thing, m.Next()%12)
		for i := range things {
			things[i] = mixedThing(&m)
			b = things[i].add(b)
		}
		r := pack.New(b)
		for i, want := range things {
			if got := take(r, want.kind); got != want {
				t.Fatalf("of %#v the %dth is taken as %#v from %v", things, i, got, b)
			}
		}
		if !r.Ended() || r.Left() != 0 {
			t.Fatalf("of %#v, %d bytes are left of %v", things, r.Left(), b)
		}
		checkCutOff(t, things, b)
	}
}

// checkCutOff: without its last byte, not all is taken from it.
func checkCutOff(t *testing.T, things []thing, b []byte) {
	t.Helper()
	if len(b) == 0 {
		return
	}
	r := pack.New(b[:len(b)-1])
	for i, want := range things {
		got := take(r, want.kind)
		if last := i == len(things)-1; !last && got != want || last && got != (thing{kind: want.kind}) {
			t.Fatalf("of %#v the %dth is taken as %#v, with the last byte gone", things, i, got)
		}
	}
	checkFailed(t, "cut off", r)
}

// P6.3: whatever the bytes are, what is taken from them has just these.
func TestNoOtherBytesAreTaken(t *testing.T) {
	m := mixer.Mixer(64)
	for range 100000 {
		b := make([]byte, m.Next()%24)
		for i := range b {
			b[i] = byte(m.Next() >> (m.Next() % 9))
		}
		r := pack.New(b)
		var again []byte
		for range 6 {
			x := take(r, int(m.Next()%5))
			if r.Left() == 0 && !r.Ended() {
				if x != (thing{kind: x.kind}) {
					t.Fatalf("it has failed, and answers %#v", x)
				}
				break
			}
			again = x.add(again)
			if !bytes.Equal(again, b[:len(b)-r.Left()]) {
				t.Fatalf("from %v what has the bytes %v is taken, %d left", b, again, r.Left())
			}
		}
	}
}

// P6.3: two that aren't the same have bytes that aren't, and no number's bytes are the beginning of another one's.
func TestBytesAreOneThingsAlone(t *testing.T) {
	seen := map[string]uint64{}
	for n := range uint64(20000) {
		b := pack.Num(nil, n)
		if other, ok := seen[string(b)]; ok {
			t.Fatal("the same bytes:", n, other)
		}
		for size := 1; size < len(b); size++ {
			if other, ok := seen[string(b[:size])]; ok {
				t.Fatal("one is the other's beginning:", n, other)
			}
		}
		seen[string(b)] = n
	}
}

// P6.1, P6.2: how many things there are has no limit of its own.
func TestManyThings(t *testing.T) {
	numbers := make([]uint64, 100000)
	for i := range numbers {
		numbers[i] = uint64(i)
	}
	b := pack.Num(nil, numbers...)
	r := pack.New(b)
	for i := range numbers {
		if got := r.Num(); got != uint64(i) {
			t.Fatalf("the number %d is taken as %d", i, got)
		}
	}
	if !r.Ended() {
		t.Error(r.Left(), "bytes are left")
	}
	if _, err := pack.Text(nil, make([]string, 100000)...); err != api.OK {
		t.Error("many texts:", err)
	}
}

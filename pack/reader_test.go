package pack_test

import (
	"bytes"
	"math"
	"slices"
	"strings"
	"testing"

	"falsework/pack"
)

// taking: all that take, each with what it takes as bytes again, so that answers of all kinds can be held against one another.
func taking() map[string]func(r *pack.Reader) []byte {
	return map[string]func(r *pack.Reader) []byte{
		"Num":   func(r *pack.Reader) []byte { return pack.Num(nil, r.Num()) },
		"Int":   func(r *pack.Reader) []byte { return pack.Int(nil, r.Int()) },
		"Small": func(r *pack.Reader) []byte { return pack.Num(nil, uint64(r.Small(math.MaxUint64))) },
		"Text":  func(r *pack.Reader) []byte { b, _ := pack.Text(nil, r.Text()); return b },
		"Float": func(r *pack.Reader) []byte { return pack.Float(nil, r.Float()) },
	}
}

// checkFailed: whatever is asked of it, and in whichever order, it is answered as the promise says of one that has FAILED.
func checkFailed(t *testing.T, what string, r *pack.Reader) {
	t.Helper()
	for range 2 {
		if r.Left() != 0 || r.Ended() {
			t.Errorf("%s: Left %d, Ended %t; want 0, false", what, r.Left(), r.Ended())
		}
		if n := r.Num(); n != 0 {
			t.Errorf("%s: then Num = %d", what, n)
		}
		if n := r.Int(); n != 0 {
			t.Errorf("%s: then Int = %d", what, n)
		}
		if n := r.Small(math.MaxUint64); n != 0 {
			t.Errorf("%s: then Small = %d", what, n)
		}
		if n := r.Small(0); n != 0 {
			t.Errorf("%s: then Small = %d", what, n)
		}
		if text := r.Text(); text != "" {
			t.Errorf("%s: then Text = %q", what, text)
		}
		if x := r.Float(); math.Float64bits(x) != 0 {
			t.Errorf("%s: then Float = %v", what, x)
		}
		r.Fail()
	}
}

// P6.2
func TestNew(t *testing.T) {
	for _, b := range [][]byte{nil, {}} {
		if r := pack.New(b); r.Left() != 0 || !r.Ended() {
			t.Error("of none:", r.Left(), r.Ended())
		}
	}
	for _, size := range []int{1, 2, 8, 1000, 200000} {
		if r := pack.New(row(size)); r.Left() != size || r.Ended() {
			t.Errorf("of %d: %d, %t", size, r.Left(), r.Ended())
		}
	}
}

// P6.2: in order, with what is left at each step.
func TestTakeInOrder(t *testing.T) {
	b := []byte{172, 2, 1, 3, 'a', 'b', 'c', 0, 0, 0, 0, 0, 0, 240, 63, 0, 200, 1, 127}
	r := pack.New(b)
	if n := r.Num(); n != 300 || r.Left() != 17 {
		t.Error("Num:", n, r.Left())
	}
	if n := r.Int(); n != -1 || r.Left() != 16 {
		t.Error("Int:", n, r.Left())
	}
	if text := r.Text(); text != "abc" || r.Left() != 12 {
		t.Errorf("Text: %q, %d", text, r.Left())
	}
	if x := r.Float(); x != 1 || r.Left() != 4 {
		t.Error("Float:", x, r.Left())
	}
	if text := r.Text(); text != "" || r.Left() != 3 || r.Ended() {
		t.Errorf("an empty text: %q, %d, %t", text, r.Left(), r.Ended())
	}
	if n := r.Small(200); n != 200 || r.Left() != 1 || r.Ended() {
		t.Error("Small:", n, r.Left(), r.Ended())
	}
	if n := r.Num(); n != 127 || r.Left() != 0 || !r.Ended() {
		t.Error("the last one:", n, r.Left(), r.Ended())
	}
	if n := r.Num(); n != 0 {
		t.Error("behind the end:", n)
	}
	checkFailed(t, "behind the end", r)
}

// P6.2: no number is in more bytes than it takes, nor above 64 bits, nor cut off.
func TestNoNumber(t *testing.T) {
	wrong := [][]byte{
		nil,
		// Cut off.
		{128},
		{255},
		{172},
		high(1, 128),
		full(7, 255),
		full(8, 255),
		high(8, 128),
		// In more bytes than it takes.
		{128, 0},
		{129, 0},
		{255, 0},
		{172, 130, 0},
		{128, 128, 0},
		high(7, 0),
		high(8, 0),
		full(8, 0),
		high(9, 0),
		full(9, 0),
		high(10, 0),
		high(20, 0),
		// Above 64 bits.
		high(9, 2),
		high(9, 3),
		full(9, 2),
		full(9, 3),
		high(9, 64),
		full(9, 127),
		high(9, 128),
		full(9, 255),
		full(9, 129),
		high(10, 1),
		full(10, 1),
		high(100, 1),
		full(100, 127),
	}
	for _, b := range wrong {
		for name, take := range taking() {
			if name == "Float" {
				continue
			}
			checkNone(t, name, take, b)
			// What comes behind does not mend it, but where it was cut off.
			if len(b) > 1 && b[len(b)-1] < 128 {
				checkNone(t, name, take, slices.Concat(b, []byte{5, 5, 5}))
			}
		}
	}
}

// checkNone: it takes nothing from these bytes, and has FAILED then.
func checkNone(t *testing.T, name string, take func(r *pack.Reader) []byte, b []byte) {
	t.Helper()
	what := name + " of bytes that are none"
	r := pack.New(b)
	zero := []byte{0}
	if name == "Float" {
		zero = make([]byte, 8)
	}
	if got := take(r); !bytes.Equal(got, zero) {
		t.Errorf("%s: it took %v from %v", what, got, b)
	}
	checkFailed(t, what, r)
}

// P6.2
func TestTakeNumAtTheEdges(t *testing.T) {
	for _, n := range []uint64{0, 1, 127, 128, 16383, 16384, 1<<32 - 1, 1 << 32, 1<<56 - 1, 1 << 56, 1<<63 - 1, 1 << 63, math.MaxUint64} {
		r := pack.New(pack.Num(nil, n, 5))
		if got := r.Num(); got != n || r.Left() != 1 || r.Num() != 5 || !r.Ended() {
			t.Errorf("Num = %d; want %d", got, n)
		}
	}
	for _, n := range []int64{0, -1, 1, 63, -64, 64, -65, 1 << 31, -1 << 31, most, most - 1, least + 1, least} {
		r := pack.New(pack.Int(nil, n, 5))
		if got := r.Int(); got != n || r.Left() != 1 || r.Int() != 5 || !r.Ended() {
			t.Errorf("Int = %d; want %d", got, n)
		}
	}
}

// P6.2: whichever of the two bounds is the lower one.
func TestSmall(t *testing.T) {
	for _, c := range []struct {
		n, most uint64
		right   bool
	}{
		{0, 0, true},
		{1, 0, false},
		{1, 1, true},
		{2, 1, false},
		{199, 200, true},
		{200, 200, true},
		{201, 200, false},
		{1<<31 - 1, 1 << 31, true},
		{1 << 31, 1 << 31, true},
		{1 << 31, 1<<31 - 1, false},
		{1<<31 + 1, 1 << 31, false},
		{1<<31 + 1, 1<<31 + 1, false},
		{1 << 31, 1 << 32, true},
		{1 << 31, 1 << 63, true},
		{1 << 31, math.MaxUint64, true},
		{0, math.MaxUint64, true},
		{5, math.MaxUint64, true},
		{1<<31 + 1, math.MaxUint64, false},
		{1 << 32, math.MaxUint64, false},
		{1<<32 + 5, math.MaxUint64, false},
		{1 << 63, math.MaxUint64, false},
		{math.MaxUint64, math.MaxUint64, false},
		{math.MaxUint64, 0, false},
	} {
		r := pack.New(pack.Num(nil, c.n, 7))
		got := r.Small(c.most)
		if !c.right {
			if got != 0 {
				t.Errorf("Small(%d) of %d = %d", c.most, c.n, got)
			}
			checkFailed(t, "Small of too much", r)
			continue
		}
		if uint64(got) != c.n || r.Left() != 1 || r.Num() != 7 || !r.Ended() {
			t.Errorf("Small(%d) of %d = %d", c.most, c.n, got)
		}
	}
}

// P6.2
func TestTakeText(t *testing.T) {
	for _, size := range []int{0, 1, 2, 127, 128, 16383, 16384, longestText - 1, longestText} {
		text := strings.Repeat("a \xff\x00text", 1+size/8)[:size]
		b, _ := pack.Text(nil, text, "more")
		r := pack.New(b)
		if got := r.Text(); got != text || r.Left() != 5 || r.Text() != "more" || !r.Ended() {
			t.Errorf("a text of %d bytes is taken as one of %d", size, len(got))
		}
	}
}

// P6.2: a text that is longer than what is left, or than MaxBytes; one whose length is no number.
func TestNoText(t *testing.T) {
	long := bytes.Repeat([]byte{'x'}, longestText+10)
	text := taking()["Text"]
	for _, b := range [][]byte{
		{1},
		{2, 'a'},
		{5, 'a', 'b'},
		{3, 0, 0},
		{129, 0, 'a', 'b'},
		{128, 1, 'a'},
		pack.Num(nil, longestText),
		pack.Num(nil, 1<<31),
		append(pack.Num(nil, longestText), long[:longestText-1]...),
		append(pack.Num(nil, longestText+1), long...),
		append(pack.Num(nil, longestText+1), long[:longestText+1]...),
		append(pack.Num(nil, 1<<32), long...),
		append(pack.Num(nil, 1<<32+1), long...),
		append(pack.Num(nil, 1<<63), long...),
		append(pack.Num(nil, math.MaxUint64), long...),
	} {
		checkNone(t, "Text", text, b)
	}
}

// P6.2: all bits are a float's; too few are none.
func TestTakeFloat(t *testing.T) {
	for _, bits := range []uint64{0, 1, 1 << 63, 0x3ff0000000000000, 0x7fefffffffffffff, 0x7ff0000000000000, 0xfff0000000000000,
		0x7ff8000000000000, 0x7ff0000000000001, 0xfff4000000000007, math.MaxUint64, 0x0807060504030201} {
		r := pack.New(append(pack.Float(nil, math.Float64frombits(bits)), 9))
		if got := math.Float64bits(r.Float()); got != bits || r.Left() != 1 || r.Num() != 9 || !r.Ended() {
			t.Errorf("Float with bits %#x; want %#x", got, bits)
		}
	}
	for size := range 8 {
		checkNone(t, "Float", taking()["Float"], row(size))
	}
}

// P6.2: once it has FAILED it stays so, though there would be more to take.
func TestFail(t *testing.T) {
	for _, b := range [][]byte{nil, {5}, {1, 'a', 2, 'b', 'c'}, make([]byte, 100), bytes.Repeat([]byte{1}, 100)} {
		r := pack.New(b)
		r.Fail()
		checkFailed(t, "Fail at the beginning", r)
		r = pack.New(b)
		r.Text()
		r.Fail()
		checkFailed(t, "Fail in the midst", r)
	}
	r := pack.New([]byte{5})
	if r.Num() != 5 || !r.Ended() {
		t.Error("not at the end")
	}
	r.Fail()
	checkFailed(t, "Fail at the end", r)
}

// P6.2: each of them, behind each that failed, with enough behind it for all of them.
func TestAllAnswerThatItHasFailed(t *testing.T) {
	enough := bytes.Repeat([]byte{1}, 100)
	for name, fail := range map[string]func(r *pack.Reader){
		"Num":   func(r *pack.Reader) { r.Num() },
		"Int":   func(r *pack.Reader) { r.Int() },
		"Small": func(r *pack.Reader) { r.Small(9) },
		"Text":  func(r *pack.Reader) { r.Text() },
	} {
		r := pack.New(slices.Concat([]byte{128, 0}, enough))
		fail(r)
		checkFailed(t, name, r)
	}
	r := pack.New(enough)
	r.Small(0)
	checkFailed(t, "Small of too much", r)
	r = pack.New(slices.Concat([]byte{120}, enough))
	r.Text()
	checkFailed(t, "Text", r)
	r = pack.New(enough[:7])
	r.Float()
	checkFailed(t, "Float", r)
}

// Left and Ended ask alone.
func TestAskingChangesNothing(t *testing.T) {
	r := pack.New([]byte{3, 4})
	for range 3 {
		if r.Left() != 2 || r.Ended() {
			t.Error(r.Left(), r.Ended())
		}
	}
	if r.Num() != 3 || r.Num() != 4 {
		t.Error("what was there isn't any more")
	}
	for range 3 {
		if r.Left() != 0 || !r.Ended() {
			t.Error(r.Left(), r.Ended())
		}
	}
}

// Rules that hold everywhere: the bytes may be written over behind New, are not changed, and readers have nothing to do with each other.
func TestReadersKeepNoArguments(t *testing.T) {
	b := []byte{172, 2, 2, 'h', 'i', 0, 0, 0, 0, 0, 0, 240, 63}
	kept := bytes.Clone(b)
	one, other := pack.New(b), pack.New(b)
	if one.Num() != 300 || one.Text() != "hi" || one.Float() != 1 || !one.Ended() {
		t.Error("the one")
	}
	one.Fail()
	if !bytes.Equal(b, kept) {
		t.Error("what was handed in is now", b)
	}
	overwrite(b)
	if other.Left() != len(kept) || other.Num() != 300 || other.Text() != "hi" || other.Float() != 1 || !other.Ended() {
		t.Error("the other")
	}
}

// Behind what is handed in there may be more, which isn't to be taken.
func TestSpareRoomIsNotTaken(t *testing.T) {
	room := []byte{5, 'a', 'b', 'c', 'd', 'e', 1, 1, 1, 1}
	checkNone(t, "Text", taking()["Text"], room[:4])
	checkNone(t, "Float", taking()["Float"], room[:7])
	room[0] = 133
	checkNone(t, "Num", taking()["Num"], room[:1])
}

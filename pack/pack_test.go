package pack_test

import (
	"bytes"
	"math"
	"slices"
	"strings"
	"testing"

	"falsework/api"
	"falsework/pack"
)

const (
	least = math.MinInt64
	most  = math.MaxInt64
	// The chapter's limit, as a number of its own.
	longestText = 65536
)

// The sections Errors and Limits: callers may hold the numbers themselves against an answer.
func TestErrorNumbers(t *testing.T) {
	if _, e := pack.Text(nil, strings.Repeat("x", 65537)); e != 61 {
		t.Error("a text that is too long:", e)
	}
	if api.MaxBytes != longestText {
		t.Error("the longest text:", api.MaxBytes)
	}
}

func check(t *testing.T, what string, got, want []byte) {
	t.Helper()
	if !bytes.Equal(got, want) {
		t.Errorf("%s = %v; want %v", what, got, want)
	}
}

// full: so many bytes 255, and one more.
func full(count int, last byte) []byte {
	return append(bytes.Repeat([]byte{255}, count), last)
}

// high: so many bytes 128, and one more.
func high(count int, last byte) []byte {
	return append(bytes.Repeat([]byte{128}, count), last)
}

// P6.1: the least and the greatest number of each count of bytes, and some between.
func TestNum(t *testing.T) {
	for _, c := range []struct {
		n    uint64
		want []byte
	}{
		{0, []byte{0}},
		{1, []byte{1}},
		{42, []byte{42}},
		{126, []byte{126}},
		{127, []byte{127}},
		{128, []byte{128, 1}},
		{129, []byte{129, 1}},
		{255, []byte{255, 1}},
		{256, []byte{128, 2}},
		{300, []byte{172, 2}},
		{1<<14 - 1, []byte{255, 127}},
		{1 << 14, []byte{128, 128, 1}},
		{65536, []byte{128, 128, 4}},
		{1<<21 - 1, full(2, 127)},
		{1 << 21, high(3, 1)},
		{1<<28 - 1, full(3, 127)},
		{1 << 28, high(4, 1)},
		{1 << 31, high(4, 8)},
		{1<<32 - 1, full(4, 15)},
		{1 << 32, high(4, 16)},
		{1<<35 - 1, full(4, 127)},
		{1 << 35, high(5, 1)},
		{1<<42 - 1, full(5, 127)},
		{1 << 42, high(6, 1)},
		{1<<49 - 1, full(6, 127)},
		{1 << 49, high(7, 1)},
		{1<<56 - 1, full(7, 127)},
		{1 << 56, high(8, 1)},
		{0x0123456789abcdef, []byte{239, 155, 175, 205, 248, 172, 209, 145, 1}},
		{1<<63 - 1, full(8, 127)},
		{1 << 63, high(9, 1)},
		{math.MaxUint64, full(9, 1)},
	} {
		if got := pack.Num(nil, c.n); !bytes.Equal(got, c.want) {
			t.Errorf("Num(%d) = %v; want %v", c.n, got, c.want)
		}
	}
}

// P6.1
func TestInt(t *testing.T) {
	for _, c := range []struct {
		n    int64
		want []byte
	}{
		{0, []byte{0}},
		{-1, []byte{1}},
		{1, []byte{2}},
		{-2, []byte{3}},
		{2, []byte{4}},
		{63, []byte{126}},
		{-64, []byte{127}},
		{64, []byte{128, 1}},
		{-65, []byte{129, 1}},
		{150, []byte{172, 2}},
		{1<<31 - 1, append([]byte{254}, full(3, 15)...)},
		{-1 << 31, full(4, 15)},
		{most, append([]byte{254}, full(8, 1)...)},
		{least, full(9, 1)},
		{least + 1, append([]byte{253}, full(8, 1)...)},
	} {
		if got := pack.Int(nil, c.n); !bytes.Equal(got, c.want) {
			t.Errorf("Int(%d) = %v; want %v", c.n, got, c.want)
		}
	}
}

// P6.1
func TestFloat(t *testing.T) {
	for _, c := range []struct {
		x    float64
		want []byte
	}{
		{0, []byte{0, 0, 0, 0, 0, 0, 0, 0}},
		{math.Copysign(0, -1), []byte{0, 0, 0, 0, 0, 0, 0, 128}},
		{1, []byte{0, 0, 0, 0, 0, 0, 240, 63}},
		{-2, []byte{0, 0, 0, 0, 0, 0, 0, 192}},
		{4.25, []byte{0, 0, 0, 0, 0, 0, 17, 64}},
		{0.1, []byte{154, 153, 153, 153, 153, 153, 185, 63}},
		{math.SmallestNonzeroFloat64, []byte{1, 0, 0, 0, 0, 0, 0, 0}},
		{math.MaxFloat64, []byte{255, 255, 255, 255, 255, 255, 239, 127}},
		{math.Inf(1), []byte{0, 0, 0, 0, 0, 0, 240, 127}},
		{math.Inf(-1), []byte{0, 0, 0, 0, 0, 0, 240, 255}},
		{math.Float64frombits(0x0807060504030201), []byte{1, 2, 3, 4, 5, 6, 7, 8}},
		// What is no number has bits of its own, too.
		{math.Float64frombits(0x7ff8000000000001), []byte{1, 0, 0, 0, 0, 0, 248, 127}},
		{math.Float64frombits(0x7ff0000000000001), []byte{1, 0, 0, 0, 0, 0, 240, 127}},
		{math.Float64frombits(0xffffffffffffffff), []byte{255, 255, 255, 255, 255, 255, 255, 255}},
	} {
		if got := pack.Float(nil, c.x); !bytes.Equal(got, c.want) {
			t.Errorf("Float(%v) = %v; want %v", c.x, got, c.want)
		}
	}
}

func checkText(t *testing.T, what string, want []byte, wantErr api.Errno, b []byte, l ...string) {
	t.Helper()
	got, err := pack.Text(b, l...)
	if !bytes.Equal(got, want) || err != wantErr {
		t.Errorf("%s: %d bytes, %d; want %d bytes, %d", what, len(got), err, len(want), wantErr)
	}
}

// P6.1
func TestText(t *testing.T) {
	checkText(t, "an empty text", []byte{0}, api.OK, nil, "")
	checkText(t, "one byte", []byte{1, 'a'}, api.OK, nil, "a")
	checkText(t, "bytes, not runes", []byte{3, 0xe2, 0x82, 0xac}, api.OK, nil, "\u20ac")
	checkText(t, "no runes at all", []byte{4, 0xff, 0, 0x80, 0xc0}, api.OK, nil, "\xff\x00\x80\xc0")
	for _, c := range []struct {
		size int
		head []byte
	}{
		{127, []byte{127}},
		{128, []byte{128, 1}},
		{16383, []byte{255, 127}},
		{16384, []byte{128, 128, 1}},
		{longestText - 1, []byte{255, 255, 3}},
		{longestText, []byte{128, 128, 4}},
	} {
		text := strings.Repeat("pack me.", 1+c.size/8)[:c.size]
		checkText(t, "a long one", append(c.head, text...), api.OK, nil, text)
	}
}

// P6.1: each text has the limit by itself, and not the bytes.
func TestTextsOfMoreThanTheLimitInAll(t *testing.T) {
	text := strings.Repeat("y", longestText)
	one := append([]byte{128, 128, 4}, text...)
	b := bytes.Repeat([]byte{7}, 2*longestText)
	checkText(t, "three", slices.Concat(b, one, one, one), api.OK, b, text, text, text)
}

// P6.1: one text that is too long, wherever it is, and nothing is answered.
func TestTextErrPack(t *testing.T) {
	for _, size := range []int{longestText + 1, longestText + 2, 2 * longestText, 1 << 20} {
		long := strings.Repeat("z", size)
		for _, l := range [][]string{
			{long}, {long, "a"}, {"a", long}, {"a", long, "b"}, {"", long}, {long, ""}, {long, long},
		} {
			checkText(t, "too long", nil, api.ErrPack, nil, l...)
			checkText(t, "too long", nil, api.ErrPack, []byte{1, 2, 3}, l...)
		}
	}
}

// P6.1: several, one behind the other, behind any bytes.
func TestSeveral(t *testing.T) {
	for _, b := range [][]byte{nil, {}, {0}, {9}, {255, 128}, bytes.Repeat([]byte{200}, 100000)} {
		check(t, "Num", pack.Num(b, 0, 300, 7), slices.Concat(b, []byte{0, 172, 2, 7}))
		check(t, "Int", pack.Int(b, 0, -1, 150, -2), slices.Concat(b, []byte{0, 1, 172, 2, 3}))
		check(t, "Float", pack.Float(b, 1, -2), slices.Concat(b, []byte{0, 0, 0, 0, 0, 0, 240, 63, 0, 0, 0, 0, 0, 0, 0, 192}))
		checkText(t, "Text", slices.Concat(b, []byte{2, 'a', 'b', 0, 1, 'c'}), api.OK, b, "ab", "", "c")
	}
}

// calls: all that add to bytes, with nothing to add, one, and several.
func calls() map[string]func(b []byte) []byte {
	text := func(b []byte, l ...string) []byte {
		out, _ := pack.Text(b, l...)
		return out
	}
	return map[string]func(b []byte) []byte{
		"Num of none":       func(b []byte) []byte { return pack.Num(b) },
		"Num of one":        func(b []byte) []byte { return pack.Num(b, 1) },
		"Num of several":    func(b []byte) []byte { return pack.Num(b, 1, 300, math.MaxUint64) },
		"Int of none":       func(b []byte) []byte { return pack.Int(b) },
		"Int of one":        func(b []byte) []byte { return pack.Int(b, -5) },
		"Int of several":    func(b []byte) []byte { return pack.Int(b, -5, 5, least) },
		"Text of none":      func(b []byte) []byte { return text(b) },
		"Text of an empty":  func(b []byte) []byte { return text(b, "") },
		"Text of several":   func(b []byte) []byte { return text(b, "ab", "cdefghi") },
		"Text of a long":    func(b []byte) []byte { return text(b, "ab", strings.Repeat("x", longestText+1)) },
		"Float of none":     func(b []byte) []byte { return pack.Float(b) },
		"Float of one":      func(b []byte) []byte { return pack.Float(b, 0.1) },
		"Float of several":  func(b []byte) []byte { return pack.Float(b, 0.1, -1, math.NaN()) },
		"an empty list too": func(b []byte) []byte { return pack.Num(b, []uint64{}...) },
	}
}

// P6.1: of none, it is the bytes alone.
func TestNothingToAdd(t *testing.T) {
	for _, name := range []string{"Num of none", "Int of none", "Text of none", "Float of none", "an empty list too"} {
		for _, b := range [][]byte{nil, {}, {5, 6, 200}} {
			check(t, name, calls()[name](b), b)
		}
	}
	if _, err := pack.Text(nil); err != api.OK {
		t.Error("Text of none:", err)
	}
}

// row: so many bytes, none like its neighbours.
func row(count int) []byte {
	out := make([]byte, count)
	for i := range out {
		out[i] = byte(3 + 5*i)
	}
	return out
}

func overwrite(b []byte) {
	for i := range cap(b) {
		b[:cap(b)][i] = 77
	}
}

// Rules that hold everywhere: what is handed in isn't changed, spare room included; an answer is new memory, and the argument isn't kept.
func TestAnswersAreNewMemory(t *testing.T) {
	for name, call := range calls() {
		for _, size := range []int{0, 1, 3, 8, 40} {
			want := call(row(size))
			room := row(100)
			one, other := call(room[:size]), call(room[:size])
			if !bytes.Equal(room, row(100)) {
				t.Errorf("%s, behind %d bytes, has changed what was handed in", name, size)
			}
			check(t, name, other, want)
			overwrite(one)
			if !bytes.Equal(room, row(100)) {
				t.Errorf("%s, behind %d bytes, shares memory with what was handed in", name, size)
			}
			overwrite(room)
			if !bytes.Equal(other, want) {
				t.Errorf("%s, behind %d bytes, keeps what was handed in, or shares memory with another answer", name, size)
			}
		}
	}
}

// Rules that hold everywhere: nor are the lists of numbers and texts changed.
func TestListsStay(t *testing.T) {
	numbers := []uint64{5, 300, math.MaxUint64, 8, 9}
	ints := []int64{-5, 300, least, 8, 9}
	floats := []float64{0.5, -1, 7, 8, 9}
	texts := []string{"a", "", "bc", "d", "e"}
	pack.Num(nil, numbers[:3]...)
	pack.Int(nil, ints[:3]...)
	pack.Float(nil, floats[:3]...)
	pack.Text(nil, texts[:3]...)
	if !slices.Equal(numbers, []uint64{5, 300, math.MaxUint64, 8, 9}) ||
		!slices.Equal(ints, []int64{-5, 300, least, 8, 9}) ||
		!slices.Equal(floats, []float64{0.5, -1, 7, 8, 9}) ||
		!slices.Equal(texts, []string{"a", "", "bc", "d", "e"}) {
		t.Error(numbers, ints, floats, texts)
	}
}

package crc_test

import (
	"bytes"
	"math"
	"testing"

	"falsework/crc"
)

func sum(s string) uint32 { return crc.Start().Add([]byte(s)...).Sum() }

// P7.1
func TestStartAndSum(t *testing.T) {
	if r := crc.Start(); r != 0xFFFFFFFF {
		t.Errorf("Start is %x", r)
	}
	for r, want := range map[crc.Reg]uint32{0: 0xFFFFFFFF, 0xFFFFFFFF: 0, 1: 0xFFFFFFFE, 0x80000000: 0x7FFFFFFF, 0x12345678: 0xEDCBA987} {
		if s := r.Sum(); s != want {
			t.Errorf("Sum of %x is %x, not %x", r, s, want)
		}
	}
}

// P7.1
func TestSumsOfTexts(t *testing.T) {
	for s, want := range map[string]uint32{
		"":                 0,
		"a":                0xE8B7BE43,
		"abc":              0x352441C2,
		"123456789":        0xCBF43926,
		"\x00":             0xD202EF8D,
		"\xFF":             0xFF000000,
		"\x00\x00\x00\x00": 0x2144DF1C,
		"\xFF\xFF\xFF\xFF": 0xFFFFFFFF,
		"The quick brown fox jumps over the lazy dog": 0x414FA339,
	} {
		if n := sum(s); n != want {
			t.Errorf("Sum of %q is %x, not %x", s, n, want)
		}
	}
}

// P7.1
func TestAddToAnyRegister(t *testing.T) {
	for _, c := range []struct {
		r    crc.Reg
		b    []byte
		want crc.Reg
	}{
		{0, nil, 0},
		{1, []byte{}, 1},
		{0, []byte{0}, 0},
		{0, []byte{0x80}, 0xEDB88320},
		{0, []byte{0x40}, 0xEDB88320 >> 1},
		{0x80, []byte{0}, 0xEDB88320},
		{0x80, []byte{0x80}, 0},
		{0x100, []byte{0}, 1},
		{0xFFFFFF00, []byte{0}, 0x00FFFFFF},
		{0, []byte{1}, 0x77073096},
		{0, []byte{0, 0x80}, 0xEDB88320},
	} {
		if r := c.r.Add(c.b...); r != c.want {
			t.Errorf("%x with %x is %x, not %x", c.r, c.b, r, c.want)
		}
	}
}

// P7.1
func TestAddBitByBit(t *testing.T) {
	for _, r := range []crc.Reg{0, 1, 0x80000000, 0xFFFFFFFF, 0xEDB88320, 0x12345678} {
		for b := range 256 {
			want := uint32(r)
			for place := range 8 {
				told := want&1 != uint32(b>>place&1)
				want >>= 1
				if told {
					want ^= 0xEDB88320
				}
			}
			if got := r.Add(byte(b)); got != crc.Reg(want) {
				t.Errorf("%x with %x is %x, not %x", r, b, got, want)
			}
		}
	}
}

// P7.1
func TestAddInPieces(t *testing.T) {
	text := []byte("123456789")
	for i := range len(text) + 1 {
		if n := crc.Start().Add(text[:i]...).Add().Add(text[i:]...).Sum(); n != 0xCBF43926 {
			t.Errorf("cut at %d: %x", i, n)
		}
	}
	if n := crc.Start().Add('1', '2', '3').Add('4').Add('5', '6', '7', '8', '9').Sum(); n != 0xCBF43926 {
		t.Errorf("%x", n)
	}
}

// P7.2
func TestClose(t *testing.T) {
	for s, want := range map[string]string{
		"":             "\x00\x00\x00\x00",
		"a":            "a\x43\xBE\xB7\xE8",
		"123456789":    "123456789\x26\x39\xF4\xCB",
		"\xFF":         "\xFF\x00\x00\x00\xFF",
		"\x00\x00\x00": "\x00\x00\x00\x12\xD9\x41\xFF",
	} {
		if b := crc.Close([]byte(s)); string(b) != want {
			t.Errorf("Close of %q is %q, not %q", s, b, want)
		}
	}
	if b := crc.Close(nil); string(b) != "\x00\x00\x00\x00" {
		t.Errorf("Close of none is %q", b)
	}
}

// P7.2
func TestOpen(t *testing.T) {
	for _, s := range []string{"", "a", "abc", "123456789", "\x00\x00\x00\x00", "a\x43\xBE\xB7\xE8"} {
		if b, ok := crc.Open(crc.Close([]byte(s))); string(b) != s || !ok {
			t.Errorf("Open of what Close made of %q: %q, %v", s, b, ok)
		}
	}
}

// P7.2
func TestOpenWrong(t *testing.T) {
	for _, s := range []string{
		"", "a", "ab", "abc", "\x00", "\x00\x00\x00",
		"abcd", "\x00\x00\x00\x01", "\x01\x00\x00\x00", "\xFF\xFF\xFF\xFF",
		"a\xE8\xB7\xBE\x43", "a\xBC\x41\x48\x17", "b\x43\xBE\xB7\xE8",
		"a\x43\xBE\xB7", "\x43\xBE\xB7\xE8", "\x43\xBE\xB7\xE8a", "a\x43\xBE\xB7\xE8a", "aa\x43\xBE\xB7\xE8",
	} {
		wantNone(t, []byte(s))
	}
	wantNone(t, nil)
}

// P7.2, P7.4
func TestOpenWithOneBitTurned(t *testing.T) {
	b := crc.Close([]byte("123456789"))
	for i := range 8 * len(b) {
		b[i/8] ^= 1 << (i % 8)
		wantNone(t, b)
		b[i/8] ^= 1 << (i % 8)
	}
}

func wantNone(t *testing.T, b []byte) {
	t.Helper()
	if a, ok := crc.Open(b); len(a) != 0 || ok {
		t.Errorf("Open of %q: %q, %v", b, a, ok)
	}
}

// P7.2: arguments stay as they are, with their spare room, and answers share nothing with them.
func TestMemory(t *testing.T) {
	room := []byte("123456789 and some more room")
	was := string(room)
	closed := crc.Close(room[:9])
	fill(closed)
	if string(room) != was {
		t.Errorf("Close wrote on %q", room)
	}

	room = append(crc.Close([]byte("123456789")), "and room"...)
	was = string(room)
	opened, ok := crc.Open(room[:13])
	if string(opened) != "123456789" || !ok {
		t.Errorf("%q %v", opened, ok)
	}
	if spare := opened[len(opened):cap(opened)]; bytes.ContainsAny(spare, "\x26\x39\xF4\xCB") {
		t.Errorf("the seal is in the spare room: %q", spare)
	}
	fill(opened)
	if string(room) != was {
		t.Errorf("Open wrote on %q", room)
	}

	text := []byte("123456789")
	crc.Start().Add(text...)
	if string(text) != "123456789" {
		t.Errorf("Add wrote on %q", text)
	}
}

func fill(b []byte) {
	b = b[:cap(b)]
	for i := range b {
		b[i] = '#'
	}
}

// P7.3
func TestJoin(t *testing.T) {
	for _, c := range [][2]string{
		{"", ""}, {"a", ""}, {"", "a"}, {"1234", "56789"}, {"12345678", "9"}, {"1", "23456789"},
		{"\x00", "\x00"}, {"\xFF\xFF\xFF\xFF", "\x00\x00\x00\x00"}, {"", "\xFF\xFF\xFF\xFF"},
	} {
		a, b := c[0], c[1]
		if n, want := crc.Join(sum(a), sum(b), len(b)), sum(a+b); n != want {
			t.Errorf("%q and %q: %x, not %x", a, b, n, want)
		}
	}
	if n := crc.Join(0x9BE3E0A3, sum("56789"), 5); n != 0xCBF43926 {
		t.Errorf("%x", n)
	}
}

// P7.3
func TestJoinBelowZero(t *testing.T) {
	for _, n := range []int{0, -1, -2, -1 << 20, math.MinInt32, math.MinInt + 1, math.MinInt} {
		if s := crc.Join(0xCBF43926, 0, n); s != 0xCBF43926 {
			t.Errorf("%d: %x", n, s)
		}
	}
}

// P7.3: above 2 to the power of 20 nothing but an end is promised.
func TestJoinEnds(t *testing.T) {
	for _, n := range []int{1<<20 + 1, 1 << 40, math.MaxInt - 1, math.MaxInt} {
		if crc.Join(1, 2, n) != crc.Join(1, 2, n) {
			t.Error(n)
		}
	}
}

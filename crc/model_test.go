package crc_test

import (
	"bytes"
	"encoding/binary"
	"hash/crc32"
	"testing"

	"falsework/crc"
	"falsework/mixer"
)

// Here sums are held against package hash/crc32, whose IEEE table is that of Ethernet.

func someBytes(m *mixer.Mixer, n int) []byte {
	b := make([]byte, n)
	for i := range b {
		b[i] = byte(m.Next() >> 32)
	}
	return b
}

// P7.1
func TestSumAsEthernets(t *testing.T) {
	m := mixer.Mixer(71)
	for n := range 600 {
		b := someBytes(&m, n)
		if got, want := crc.Start().Add(b...).Sum(), crc32.ChecksumIEEE(b); got != want {
			t.Fatalf("%x: %x, not %x", b, got, want)
		}
		r := crc.Reg(m.Next())
		if got, want := r.Add(b...).Sum(), crc32.Update(^uint32(r), crc32.IEEETable, b); got != want {
			t.Fatalf("%x with %x: %x, not %x", r, b, got, want)
		}
	}
}

// P7.1
func TestSumOfManyBytes(t *testing.T) {
	m := mixer.Mixer(72)
	b := someBytes(&m, 1<<20)
	if got, want := crc.Start().Add(b...).Sum(), crc32.ChecksumIEEE(b); got != want {
		t.Errorf("%x, not %x", got, want)
	}
}

// P7.2
func TestCloseAndOpenAsEthernets(t *testing.T) {
	m := mixer.Mixer(73)
	for n := range 300 {
		b := someBytes(&m, n)
		want := binary.LittleEndian.AppendUint32(bytes.Clone(b), crc32.ChecksumIEEE(b))
		if got := crc.Close(b); !bytes.Equal(got, want) {
			t.Fatalf("Close of %x is %x", b, got)
		}
		if got, ok := crc.Open(want); !bytes.Equal(got, b) || !ok {
			t.Fatalf("Open of %x is %x, %v", want, got, ok)
		}
		wantNone(t, append(b, byte(m.Next()), 1, 2, 3))
	}
}

// P7.2: of all last bytes but one seal none opens.
func TestOpenOneSealAlone(t *testing.T) {
	b := crc.Close([]byte("falsework"))
	for i := 9; i < 13; i++ {
		right := b[i]
		for c := range 256 {
			b[i] = byte(c)
			if _, ok := crc.Open(b); ok != (byte(c) == right) {
				t.Errorf("byte %d is %x: %v", i, c, ok)
			}
		}
		b[i] = right
	}
}

// P7.3
func TestJoinAsWhole(t *testing.T) {
	m := mixer.Mixer(74)
	for n := range 600 {
		a, b := someBytes(&m, int(m.Next()%50)), someBytes(&m, n)
		want := crc32.ChecksumIEEE(append(bytes.Clone(a), b...))
		if got := crc.Join(crc32.ChecksumIEEE(a), crc32.ChecksumIEEE(b), n); got != want {
			t.Fatalf("%x and %x: %x, not %x", a, b, got, want)
		}
	}
}

// P7.3: the powers of 2, their neighbours, and the greatest length that is promised.
func TestJoinLong(t *testing.T) {
	m := mixer.Mixer(75)
	text := someBytes(&m, 3+1<<20)
	first := crc32.ChecksumIEEE(text[:3])
	for power := 0; power <= 20; power++ {
		for _, n := range []int{1<<power - 1, 1 << power, 1<<power + 1, int(m.Next() % (1 << power))} {
			if n > 1<<20 {
				continue
			}
			second, want := crc32.ChecksumIEEE(text[3:3+n]), crc32.ChecksumIEEE(text[:3+n])
			if got := crc.Join(first, second, n); got != want {
				t.Errorf("%d: %x, not %x", n, got, want)
			}
		}
	}
}

// P7.4
func TestFourNeighboursApart(t *testing.T) {
	m := mixer.Mixer(76)
	for range 20000 {
		b := someBytes(&m, 4+int(m.Next()%60))
		at := int(m.Next() % uint64(len(b)-3))
		other := bytes.Clone(b)
		turn := uint32(m.Next()) >> (m.Next() % 32)
		if turn == 0 {
			continue
		}
		binary.LittleEndian.PutUint32(other[at:], binary.LittleEndian.Uint32(b[at:])^turn)
		if crc.Start().Add(b...).Sum() == crc.Start().Add(other...).Sum() {
			t.Fatalf("%x and %x", b, other)
		}
	}
}

// P7.4: all pairs of turned bits within four bytes, and all texts of two bytes.
func TestShortTextsApart(t *testing.T) {
	seen := map[uint32]int{}
	for n := range 1 << 16 {
		s := crc.Start().Add(byte(n), byte(n>>8)).Sum()
		if was, ok := seen[s]; ok {
			t.Fatalf("%x and %x", was, n)
		}
		seen[s] = n
	}
	base := []byte("one and two and three")
	right := crc.Start().Add(base...).Sum()
	for i := range 8 * len(base) {
		for j := i + 1; j/8-i/8 < 4 && j < 8*len(base); j++ {
			b := bytes.Clone(base)
			b[i/8] ^= 1 << (i % 8)
			b[j/8] ^= 1 << (j % 8)
			if crc.Start().Add(b...).Sum() == right {
				t.Errorf("bits %d and %d", i, j)
			}
		}
	}
}

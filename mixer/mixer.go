// Package mixer gives the tests numbers without a plain pattern: the same ones in each run, so that a fault that one run shows comes again in the next.
package mixer

// Mixer is where in its row of numbers a test is; each start has another row.
type Mixer uint64

// Next: a number, of which each bit is as often 0 as 1.
func (m *Mixer) Next() uint64 {
	*m += 0x9e3779b97f4a7c15
	n := uint64(*m)
	n = (n ^ n>>30) * 0xbf58476d1ce4e5b9
	n = (n ^ n>>27) * 0x94d049bb133111eb
	return n ^ n>>31
}

// AnySize takes all counts of bits alike: else nearly all numbers would be great ones.
func (m *Mixer) AnySize() int64 {
	return int64(m.Next()) >> (m.Next() % 64)
}

// UpTo: a number from 0 on, below n.
func (m *Mixer) UpTo(n int) int { return int(m.Next() % uint64(n)) }

// Bytes: so many, not a few zeros among them, so that bytes and what is laid around them are easily taken for one another.
func (m *Mixer) Bytes(n int) []byte {
	b := make([]byte, n)
	for i := range b {
		b[i] = byte(m.Next() >> (m.Next() % 64))
	}
	return b
}

// Keep: how many bytes of a sector a crash keeps, most often near its stamp.
func (m *Mixer) Keep() int {
	switch m.UpTo(4) {
	case 0:
		return m.UpTo(70) - 3
	case 1:
		return 64
	}
	return 54 + m.UpTo(11)
}

// Keeps: that of each of so many sectors.
func (m *Mixer) Keeps(n int) []int {
	keep := make([]int, n)
	for i := range keep {
		keep[i] = m.Keep()
	}
	return keep
}

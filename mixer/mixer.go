// Package mixer gives the tests numbers without a plain pattern: the same ones in each run, so that a fault that one run shows comes again in the next.
package mixer

// Mixer is where in its row of numbers a test is; each start has another row.
type Mixer uint64

// Next: a number, of which each bit is as often 0 as 1.
func (m *Mixer) Next() uint64 {
	*m += 0x9e3779b97f4a7c15
	n := uint64(*m)
	n = (n ^ n>>30) * 0xbf58476d1ce4e5b9
	n = (n ^ n>>27) * 0x94d049bb133111eb
	return n ^ n>>31
}

// AnySize takes all counts of bits alike: else nearly all numbers would be great ones.
func (m *Mixer) AnySize() int64 {
	return int64(m.Next()) >> (m.Next() % 64)
}

package crc

// matrix is what some zero bytes do to a register: at each bit's place, what becomes of that bit alone.
// Bits are added without carries, so the bits of a register go their ways apart.
type matrix [32]uint32

func zeroByte() matrix {
	var m matrix
	for i := range m {
		m[i] = uint32(Reg(1 << i).Add(0))
	}
	return m
}

func (m matrix) times(v uint32) uint32 {
	var sum uint32
	for i, bit := range m {
		if v>>i&1 == 1 {
			sum ^= bit
		}
	}
	return sum
}

func (m matrix) squared() matrix {
	var twice matrix
	for i, bit := range m {
		twice[i] = m.times(bit)
	}
	return twice
}

package wide_test

import (
	"math/big"
	"testing"

	"falsework/api"
	"falsework/mixer"
	"falsework/wide"
)

// Here every call is held against the same in numbers of any size: at the edges, each with each, and at numbers of all sizes.

// answer: what a call is to answer whose result is n.
func answer(n *big.Int) (int64, api.Errno) {
	if !n.IsInt64() {
		return 0, api.ErrOver
	}
	return n.Int64(), api.OK
}

func times(a, b int64) *big.Int {
	return new(big.Int).Mul(big.NewInt(a), big.NewInt(b))
}

// modelFloor and modelEven need a c above 0, at which Div and Mod round down.
func modelFloor(p *big.Int, c int64) *big.Int {
	return new(big.Int).Div(p, big.NewInt(c))
}

func modelEven(p *big.Int, c int64) *big.Int {
	down, rest := new(big.Int).DivMod(p, big.NewInt(c), new(big.Int))
	switch rest.Lsh(rest, 1).Cmp(big.NewInt(c)) {
	case 1:
		down.Add(down, big.NewInt(1))
	case 0:
		down.Add(down, big.NewInt(int64(down.Bit(0))))
	}
	return down
}

func checkTwo(t *testing.T, a, b int64) {
	t.Helper()
	x, y := big.NewInt(a), big.NewInt(b)
	for _, c := range []struct {
		name string
		call func(a, b int64) (int64, api.Errno)
		want *big.Int
	}{
		{"Add", wide.Add, new(big.Int).Add(x, y)},
		{"Sub", wide.Sub, new(big.Int).Sub(x, y)},
		{"Mul", wide.Mul, new(big.Int).Mul(x, y)},
	} {
		want, wantErr := answer(c.want)
		if got, err := c.call(a, b); got != want || err != wantErr {
			t.Errorf("%s(%d, %d) = %d, %d; want %d, %d", c.name, a, b, got, err, want, wantErr)
		}
	}
}

func checkThree(t *testing.T, a, b, c int64) {
	t.Helper()
	var floor, even int64
	floorErr, evenErr := api.ErrZero, api.ErrZero
	if c > 0 {
		p := times(a, b)
		floor, floorErr = answer(modelFloor(p, c))
		even, evenErr = answer(modelEven(p, c))
	}
	if got, err := wide.Floor(a, b, c); got != floor || err != floorErr {
		t.Errorf("Floor(%d, %d, %d) = %d, %d; want %d, %d", a, b, c, got, err, floor, floorErr)
	}
	if got, err := wide.Even(a, b, c); got != even || err != evenErr {
		t.Errorf("Even(%d, %d, %d) = %d, %d; want %d, %d", a, b, c, got, err, even, evenErr)
	}
}

func checkCross(t *testing.T, a, b, c, d int64) {
	t.Helper()
	if got, want := wide.Cross(a, b, c, d), times(a, b).Cmp(times(c, d)); got != want {
		t.Errorf("Cross(%d, %d, %d, %d) = %d; want %d", a, b, c, d, got, want)
	}
}

func checkSum(t *testing.T, list ...int64) {
	t.Helper()
	sum := new(big.Int)
	for _, n := range list {
		sum.Add(sum, big.NewInt(n))
	}
	want, wantErr := answer(sum)
	if got, err := wide.Sum(list...); got != want || err != wantErr {
		t.Errorf("Sum(%d) = %d, %d; want %d, %d", list, got, err, want, wantErr)
	}
}

func edges() []int64 {
	return []int64{least, least + 1, least + 2, least / 2, -1 << 32, -1 << 31, -3, -2, -1, 0, 1, 2, 3, 10000, 1 << 31, 1 << 32, most / 2, most/2 + 1, most - 1, most}
}

// P1.1, P1.2, P1.3
func TestEdgesEachWithEach(t *testing.T) {
	for _, a := range edges() {
		for _, b := range edges() {
			checkTwo(t, a, b)
			for _, c := range edges() {
				checkThree(t, a, b, c)
				checkSum(t, a, b, c)
				for _, d := range edges() {
					checkCross(t, a, b, c, d)
					checkSum(t, a, b, c, d)
				}
			}
		}
	}
}

// P1.2: small ones, so that each rest and each half comes up on both sides of 0.
func TestSmallQuotients(t *testing.T) {
	for a := int64(-60); a <= 60; a++ {
		for c := int64(-2); c <= 13; c++ {
			checkThree(t, a, 1, c)
			checkThree(t, a, -3, c)
		}
	}
}

// P1.1, P1.2, P1.3
func TestNumbersOfAllSizes(t *testing.T) {
	m := mixer.Mixer(1)
	for range 100000 {
		a, b, c, d := m.AnySize(), m.AnySize(), m.AnySize(), m.AnySize()
		checkTwo(t, a, b)
		checkThree(t, a, b, c)
		checkSum(t, a, b, c, d)
		checkCross(t, a, b, c, d)
		checkCross(t, a, b, b, a)
	}
}

// P1.2: products made of a quotient, so that most results lie near the edges of 64 bits.
func TestQuotientsNearTheEdges(t *testing.T) {
	m := mixer.Mixer(2)
	for range 100000 {
		c := max(1, m.AnySize()&most)
		b := max(1, m.AnySize()&most)
		a := new(big.Int).Div(times(most, c), big.NewInt(b))
		if !a.IsInt64() {
			continue
		}
		for step := range int64(3) {
			if near := a.Int64(); near <= most-step {
				checkThree(t, near+step, b, c)
				checkThree(t, -near-step, b, c)
			}
		}
	}
}

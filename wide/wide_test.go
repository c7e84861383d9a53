package wide_test

import (
	"math"
	"slices"
	"testing"

	"falsework/api"
	"falsework/wide"
)

const (
	least = math.MinInt64
	most  = math.MaxInt64
)

// The section Errors: callers may hold the numbers themselves against an answer.
func TestErrorNumbers(t *testing.T) {
	if _, e := wide.Add(most, 1); e != 11 {
		t.Error("a sum that is no number of 64 bits:", e)
	}
	if _, e := wide.Floor(1, 1, 0); e != 12 {
		t.Error("a divisor that isn't above 0:", e)
	}
}

// P1.1
func TestAdd(t *testing.T) {
	checkPairs(t, "Add", wide.Add, []pairCase{
		{2, 3, 5, api.OK},
		{2, -3, -1, api.OK},
		{0, 0, 0, api.OK},
		{most, 0, most, api.OK},
		{most - 1, 1, most, api.OK},
		{most, 1, 0, api.ErrOver},
		{1, most, 0, api.ErrOver},
		{most, most, 0, api.ErrOver},
		{least, 0, least, api.OK},
		{0, least, least, api.OK},
		{least + 1, -1, least, api.OK},
		{least, -1, 0, api.ErrOver},
		{-1, least, 0, api.ErrOver},
		{least, least, 0, api.ErrOver},
		{least, most, -1, api.OK},
		{most, least, -1, api.OK},
	})
}

// P1.1
func TestSub(t *testing.T) {
	checkPairs(t, "Sub", wide.Sub, []pairCase{
		{2, 3, -1, api.OK},
		{2, -3, 5, api.OK},
		{5, 0, 5, api.OK},
		{least, 0, least, api.OK},
		{0, most, -most, api.OK},
		{-1, most, least, api.OK},
		{-2, most, 0, api.ErrOver},
		{most, -1, 0, api.ErrOver},
		{least, 1, 0, api.ErrOver},
		{least + 1, 1, least, api.OK},
		{0, least, 0, api.ErrOver},
		{-1, least, most, api.OK},
		{least, least, 0, api.OK},
		{most, most, 0, api.OK},
		{most, least, 0, api.ErrOver},
		{least, most, 0, api.ErrOver},
	})
}

// P1.1
func TestMul(t *testing.T) {
	checkPairs(t, "Mul", wide.Mul, []pairCase{
		{2, 3, 6, api.OK},
		{-2, 3, -6, api.OK},
		{-2, -3, 6, api.OK},
		{0, least, 0, api.OK},
		{most, 0, 0, api.OK},
		{most, 1, most, api.OK},
		{most, -1, -most, api.OK},
		{least, 1, least, api.OK},
		{1, least, least, api.OK},
		{least, -1, 0, api.ErrOver},
		{-1, least, 0, api.ErrOver},
		{least, least, 0, api.ErrOver},
		{most, most, 0, api.ErrOver},
		{most, least, 0, api.ErrOver},
		{1 << 31, 1 << 31, 1 << 62, api.OK},
		{1 << 32, 1 << 31, 0, api.ErrOver},
		{-1 << 32, 1 << 31, least, api.OK},
		{1 << 32, -1 << 31, least, api.OK},
		{-1 << 32, -1 << 31, 0, api.ErrOver},
		{1 << 32, 1 << 32, 0, api.ErrOver}, // 2^64: the lower 64 bits are 0
		{3037000499, 3037000499, 9223372030926249001, api.OK},
		{3037000500, 3037000500, 0, api.ErrOver},
	})
}

type pairCase struct {
	a, b, want int64
	err        api.Errno
}

func checkPairs(t *testing.T, name string, call func(a, b int64) (int64, api.Errno), cases []pairCase) {
	t.Helper()
	for _, c := range cases {
		if got, err := call(c.a, c.b); got != c.want || err != c.err {
			t.Errorf("%s(%d, %d) = %d, %d; want %d, %d", name, c.a, c.b, got, err, c.want, c.err)
		}
	}
}

// P1.1
func TestSum(t *testing.T) {
	for _, c := range []struct {
		list []int64
		want int64
		err  api.Errno
	}{
		{nil, 0, api.OK},
		{[]int64{}, 0, api.OK},
		{[]int64{7}, 7, api.OK},
		{[]int64{least}, least, api.OK},
		{[]int64{1, -2, 3, -4}, -2, api.OK},
		{[]int64{most, 1}, 0, api.ErrOver},
		{[]int64{least, -1}, 0, api.ErrOver},
		{[]int64{most, 1, -1}, most, api.OK},
		{[]int64{least, -1, 1}, least, api.OK},
		{[]int64{most, most, least, least, 5}, 3, api.OK},
		{[]int64{least, least, most, most, 2}, 0, api.OK},
		{[]int64{most, most, 2}, 0, api.ErrOver},       // 2^64: the lower 64 bits are 0
		{[]int64{least, least}, 0, api.ErrOver},        // -2^64: likewise
		{[]int64{least, least, least}, 0, api.ErrOver}, // the lower 64 bits are a number below 0
		{[]int64{most, most, most, 1, 1, 1, 7}, 0, api.ErrOver},
	} {
		if got, err := wide.Sum(c.list...); got != c.want || err != c.err {
			t.Errorf("Sum(%d) = %d, %d; want %d, %d", c.list, got, err, c.want, c.err)
		}
	}
}

// P1.1: a long way out of 64 bits, and back.
func TestSumLong(t *testing.T) {
	const n = 100000
	list := slices.Concat(slices.Repeat([]int64{most}, n), slices.Repeat([]int64{least}, n))
	if got, err := wide.Sum(list...); got != -n || err != api.OK {
		t.Error("there and back:", got, err)
	}
	if got, err := wide.Sum(list[:n]...); got != 0 || err != api.ErrOver {
		t.Error("there:", got, err)
	}
	if got, err := wide.Sum(list[n:]...); got != 0 || err != api.ErrOver {
		t.Error("the other way:", got, err)
	}
}

// What is handed in is not changed, spare room included.
func TestSumLeavesItsList(t *testing.T) {
	list := []int64{5, -6, most, 8, 9}
	wide.Sum(list[:3]...)
	if want := []int64{5, -6, most, 8, 9}; !slices.Equal(list, want) {
		t.Error(list)
	}
}

// P1.2
func TestFloorAndEven(t *testing.T) {
	for _, c := range []struct {
		a, b, c, floor, even int64
		floorErr, evenErr    api.Errno
	}{
		{-7, 1, 2, -4, -4, api.OK, api.OK},
		{5, 1, 2, 2, 2, api.OK, api.OK},
		{7, 1, 2, 3, 4, api.OK, api.OK},
		{-5, 1, 2, -3, -2, api.OK, api.OK},
		{1, 1, 2, 0, 0, api.OK, api.OK},
		{-1, 1, 2, -1, 0, api.OK, api.OK},
		{3, 1, 2, 1, 2, api.OK, api.OK},
		{1, -3, 2, -2, -2, api.OK, api.OK},
		{-3, -1, 2, 1, 2, api.OK, api.OK},
		{6, 1, 3, 2, 2, api.OK, api.OK},
		{-6, 1, 3, -2, -2, api.OK, api.OK},
		{1, 1, 3, 0, 0, api.OK, api.OK},
		{2, 1, 3, 0, 1, api.OK, api.OK},
		{-1, 1, 3, -1, 0, api.OK, api.OK},
		{-2, 1, 3, -1, -1, api.OK, api.OK},
		{0, -5, 7, 0, 0, api.OK, api.OK},
		{least, 0, most, 0, 0, api.OK, api.OK},
		{1000000007, 3600001, 3600000, 1000000284, 1000000285, api.OK, api.OK},

		// Products of any size.
		{most, most, most, most, most, api.OK, api.OK},
		{most, least, most, least, least, api.OK, api.OK},
		{least, most, most, least, least, api.OK, api.OK},
		{most, -most, most, -most, -most, api.OK, api.OK},
		{least, least, most, 0, 0, api.ErrOver, api.ErrOver},
		{least, least, 1, 0, 0, api.ErrOver, api.ErrOver},
		{most, most, 1, 0, 0, api.ErrOver, api.ErrOver},
		{1 << 62, 4, 1, 0, 0, api.ErrOver, api.ErrOver},    // 2^64: the lower 64 bits are 0
		{-(1 << 62), 4, 1, 0, 0, api.ErrOver, api.ErrOver}, // -2^64: likewise

		// The edges of 64 bits.
		{most, 1, 1, most, most, api.OK, api.OK},
		{least, 1, 1, least, least, api.OK, api.OK},
		{least, -1, 1, 0, 0, api.ErrOver, api.ErrOver},
		{most, 2, 1, 0, 0, api.ErrOver, api.ErrOver},
		{least, 2, 2, least, least, api.OK, api.OK},
		{least, -2, 2, 0, 0, api.ErrOver, api.ErrOver},

		// Just beyond the edges: which way it is rounded tells whether it is a number of 64 bits.
		{2515465100960393402, 11, 3, most, most, api.OK, api.OK},      // 2^63 - 1 + 1/3
		{6148914691236517205, 3, 2, most, 0, api.OK, api.ErrOver},     // 2^63 - 1 + 1/2
		{88971434439113593, 311, 3, most, 0, api.OK, api.ErrOver},     // 2^63 - 1 + 2/3
		{-5534023222112865485, 5, 3, 0, least, api.ErrOver, api.OK},   // -2^63 - 1/3
		{-67280421310721, 274177, 2, 0, least, api.ErrOver, api.OK},   // -2^63 - 1/2
		{-2128470470043409802, 13, 3, 0, 0, api.ErrOver, api.ErrOver}, // -2^63 - 2/3
		{8198552921648689607, 9, 4, 0, 0, api.ErrOver, api.ErrOver},   // 2^64 - 1/4
		{-8198552921648689607, 9, 4, 0, 0, api.ErrOver, api.ErrOver},  // -2^64 + 1/4

		// A divisor that isn't above 0, be the product what it may.
		{1, 1, 0, 0, 0, api.ErrZero, api.ErrZero},
		{0, 0, 0, 0, 0, api.ErrZero, api.ErrZero},
		{1, 1, -1, 0, 0, api.ErrZero, api.ErrZero},
		{6, 1, least, 0, 0, api.ErrZero, api.ErrZero},
		{most, most, 0, 0, 0, api.ErrZero, api.ErrZero},
		{least, least, -1, 0, 0, api.ErrZero, api.ErrZero},
	} {
		floor, floorErr := wide.Floor(c.a, c.b, c.c)
		if floor != c.floor || floorErr != c.floorErr {
			t.Errorf("Floor(%d, %d, %d) = %d, %d; want %d, %d", c.a, c.b, c.c, floor, floorErr, c.floor, c.floorErr)
		}
		even, evenErr := wide.Even(c.a, c.b, c.c)
		if even != c.even || evenErr != c.evenErr {
			t.Errorf("Even(%d, %d, %d) = %d, %d; want %d, %d", c.a, c.b, c.c, even, evenErr, c.even, c.evenErr)
		}
	}
}

// P1.3
func TestCross(t *testing.T) {
	for _, c := range []struct {
		a, b, c, d int64
		want       int
	}{
		{2, 3, 1, 7, -1},
		{2, 3, 3, 2, 0},
		{2, 3, 1, 5, 1},
		{-2, 3, -1, 7, 1},
		{-2, 3, 2, -3, 0},
		{-2, -3, 6, 1, 0},
		{-1, 5, 0, 7, -1},
		{0, 7, -1, 5, 1},
		{0, least, most, 0, 0},
		{most, most, least, least, -1},
		{least, least, most, most, 1},
		{least, least, least, least, 0},
		{least, most, most, least, 0},
		{least, most, most, -most, -1},
		{least, most, most, most, -1},
		{1 << 62, 4, 1, 0, 1},         // 2^64 and 0: the lower 64 bits are the same
		{-(1 << 62), 4, 1, 0, -1},     // -2^64 and 0: likewise
		{1 << 62, 2, most, 1, 1},      // 2^63 and one less
		{1 << 62, 2, least, 1, 1},     // 2^63 and -2^63: likewise
		{most, 2, 1 << 62, 4, -1},     // 2^64 - 2 and 2^64
		{least, 2, -(1 << 62), 4, 0},  // -2^64, twice
		{least, 2, least + 1, 2, -1},  // -2^64 and -2^64 + 2
		{1 << 32, 1 << 32, -1, -1, 1}, // 2^64 and 1
	} {
		if got := wide.Cross(c.a, c.b, c.c, c.d); got != c.want {
			t.Errorf("Cross(%d, %d, %d, %d) = %d; want %d", c.a, c.b, c.c, c.d, got, c.want)
		}
	}
}

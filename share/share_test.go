package share_test

import (
	"math"
	"slices"
	"testing"

	"falsework/api"
	"falsework/share"
)

const (
	least = math.MinInt64
	most  = math.MaxInt64
)

// many: the same weight, so often.
func many(count int, weight int64) []int64 {
	return slices.Repeat([]int64{weight}, count)
}

func checkCut(t *testing.T, total int64, weights, want []int64, wantErr api.Errno) {
	t.Helper()
	got, err := share.Cut(total, weights...)
	if !slices.Equal(got, want) || err != wantErr {
		t.Errorf("Cut(%d, %d) = %d, %d; want %d, %d", total, weights, got, err, want, wantErr)
	}
}

// P2.1: what is left over goes to the greatest remainders, of the same ones to the first.
func TestCut(t *testing.T) {
	for _, c := range []struct {
		total         int64
		weights, want []int64
	}{
		{10, []int64{1, 1, 1}, []int64{4, 3, 3}},
		{11, []int64{1, 1, 1}, []int64{4, 4, 3}},
		{12, []int64{1, 1, 1}, []int64{4, 4, 4}},
		{100, []int64{5000, 3000, 2000}, []int64{50, 30, 20}},
		{100, []int64{2000, 3000, 5000}, []int64{20, 30, 50}},
		{7, []int64{9}, []int64{7}},
		{0, []int64{1, 2, 3}, []int64{0, 0, 0}},
		{1, []int64{3, 1, 1}, []int64{1, 0, 0}},
		// Remainders 1, 2, 2 of 5: the greatest weight gets no cent more.
		{2, []int64{3, 1, 1}, []int64{1, 1, 0}},
		{3, []int64{3, 1, 1}, []int64{2, 1, 0}},
		{2, []int64{1, 1, 3}, []int64{1, 0, 1}},
		{1, []int64{1, 2, 2}, []int64{0, 1, 0}},
		{1, []int64{2, 1, 2}, []int64{1, 0, 0}},
		{5, []int64{1, 2, 4}, []int64{1, 1, 3}},
		// 4.5, 1.5, 3: the great one is first by its place alone.
		{9, []int64{3, 1, 2}, []int64{5, 1, 3}},
		{9, []int64{1, 3, 2}, []int64{2, 4, 3}},
	} {
		checkCut(t, c.total, c.weights, c.want, api.OK)
	}
}

// P2.1, P2.4: a weight of 0 has the part 0, wherever it stands.
func TestCutWithZeroWeights(t *testing.T) {
	checkCut(t, 7, []int64{1, 0, 6}, []int64{1, 0, 6}, api.OK)
	checkCut(t, 10, []int64{0, 1, 0, 1, 1, 0}, []int64{0, 4, 0, 3, 3, 0}, api.OK)
	checkCut(t, 11, []int64{0, 1, 0, 1, 1, 0}, []int64{0, 4, 0, 4, 3, 0}, api.OK)
	checkCut(t, 0, []int64{0, 3}, []int64{0, 0}, api.OK)
	checkCut(t, most, []int64{0, 0, 5, 0}, []int64{0, 0, most, 0}, api.OK)
}

// P2.1: products beyond 64 bits.
func TestCutOfGreatNumbers(t *testing.T) {
	checkCut(t, most, []int64{1, 1}, []int64{most/2 + 1, most / 2}, api.OK)
	checkCut(t, most, []int64{most}, []int64{most}, api.OK)
	checkCut(t, most, []int64{most - 1, 1}, []int64{most - 1, 1}, api.OK)
	checkCut(t, most-1, []int64{most - 1, 1}, []int64{most - 2, 1}, api.OK)
	checkCut(t, most-1, []int64{1, most - 1}, []int64{1, most - 2}, api.OK)
	checkCut(t, 1, []int64{most / 2, most/2 + 1}, []int64{0, 1}, api.OK)
	checkCut(t, 1, []int64{most/2 + 1, most / 2}, []int64{1, 0}, api.OK)
}

// P2.1: as many weights as may be.
func TestCutInMaxShares(t *testing.T) {
	want := append(many(63, 2), many(1, 1)...)
	checkCut(t, 127, many(api.MaxShares, 1), want, api.OK)
	checkCut(t, 63, many(api.MaxShares, 7), append(many(63, 1), 0), api.OK)
	checkCut(t, 1, many(api.MaxShares, 7), append(many(1, 1), many(63, 0)...), api.OK)
}

// P2.1
func TestCutErrShare(t *testing.T) {
	for _, c := range []struct {
		total   int64
		weights []int64
	}{
		{5, nil},
		{0, []int64{}},
		{5, []int64{0}},
		{0, []int64{0, 0, 0}},
		{5, many(api.MaxShares, 0)},
		{5, []int64{-1}},
		{5, []int64{1, -1}},
		{5, []int64{-1, 1}},
		{5, []int64{3, 2, -1, 4}},
		{5, []int64{least, 1}},
		{5, many(api.MaxShares+1, 1)},
		{5, many(1000, 1)},
		{-1, []int64{1}},
		{-5, []int64{1, 2}},
		{least, []int64{1}},
	} {
		checkCut(t, c.total, c.weights, nil, api.ErrShare)
	}
}

// P2.1: Sum's error of the weights, behind all that are ErrShare.
func TestCutErrOver(t *testing.T) {
	checkCut(t, 5, []int64{most, 1}, nil, api.ErrOver)
	checkCut(t, 0, []int64{1, 0, most}, nil, api.ErrOver)
	checkCut(t, 5, many(api.MaxShares, most), nil, api.ErrOver)
	checkCut(t, 5, many(api.MaxShares, most/api.MaxShares+1), nil, api.ErrOver)

	checkCut(t, -1, []int64{most, 1}, nil, api.ErrShare)
	checkCut(t, 5, []int64{most, 1, -1}, nil, api.ErrShare)
	checkCut(t, 5, []int64{most, most, most, -1}, nil, api.ErrShare)
	checkCut(t, 5, many(api.MaxShares+1, most), nil, api.ErrShare)
}

// P2.1: beside the rule that what is handed in is not changed, and that an answer is new memory.
func TestCutLeavesTheWeights(t *testing.T) {
	room := []int64{1, 3, 2, 77, 78}
	weights := room[:3]
	first, _ := share.Cut(11, weights...)
	second, _ := share.Cut(11, weights...)
	if !slices.Equal(room, []int64{1, 3, 2, 77, 78}) {
		t.Errorf("Cut changed the weights or their spare room: %d", room)
	}
	for i := range first[:cap(first)] {
		first[:cap(first)][i] = -1
	}
	if !slices.Equal(room, []int64{1, 3, 2, 77, 78}) || !slices.Equal(second, []int64{2, 5, 4}) {
		t.Errorf("the answer shares memory: weights %d, other answer %d", room, second)
	}
	room[0], room[1], room[2] = 9, 9, 9
	if !slices.Equal(second, []int64{2, 5, 4}) {
		t.Errorf("the answer shares memory with the weights: %d", second)
	}
}

func checkStrip(t *testing.T, total, points, part, rest int64, wantErr api.Errno) {
	t.Helper()
	gotPart, gotRest, err := share.Strip(total, points)
	if gotPart != part || gotRest != rest || err != wantErr {
		t.Errorf("Strip(%d, %d) = %d, %d, %d; want %d, %d, %d", total, points, gotPart, gotRest, err, part, rest, wantErr)
	}
}

// P2.2
func TestStrip(t *testing.T) {
	for _, c := range [][4]int64{
		{999, 25, 2, 997},
		{10000, 1, 1, 9999},
		{9999, 1, 0, 9999},
		{19999, 1, 1, 19998},
		{100, 2500, 25, 75},
		{3, 5000, 1, 2},
		{3, 9999, 2, 1},
		{0, 0, 0, 0},
		{0, api.MaxRate, 0, 0},
		{7, 0, 0, 7},
		{7, api.MaxRate, 7, 0},
		{most, 0, 0, most},
		{most, api.MaxRate, most, 0},
		{most, 5000, most / 2, most/2 + 1},
		{most, 1, most / 10000, most - most/10000},
	} {
		checkStrip(t, c[0], c[1], c[2], c[3], api.OK)
	}
}

// P2.2
func TestStripErrShare(t *testing.T) {
	for _, c := range [][2]int64{
		{-1, 25},
		{least, 25},
		{-1, 0},
		{999, -1},
		{0, -1},
		{999, least},
		{999, api.MaxRate + 1},
		{0, api.MaxRate + 1},
		{999, most},
		{-1, -1},
		{least, most},
	} {
		checkStrip(t, c[0], c[1], 0, 0, api.ErrShare)
	}
}

// P2.3
func TestExact(t *testing.T) {
	for _, c := range []struct {
		part, total, weight, sum int64
		want                     int
	}{
		{3, 10, 1, 3, -1},
		{4, 10, 1, 3, 1},
		{5, 10, 1, 2, 0},
		{0, 10, 0, 3, 0},
		{0, 0, 0, 0, 0},
		{1, 10, 0, 3, 1},
		{most, most, most, most, 0},
		{most, most, most - 1, most, 1},
		{most - 1, most, most, most, -1},
		{most, 1, 1, most, 1},
		// Any numbers, below 0 too: the products alone count.
		{-3, 10, -1, 3, 1},
		{-4, 10, -1, 3, -1},
		{5, 10, 1, -2, -1},
		{least, least, least, least, 0},
		{least, most, least, most, 0},
		{least, most, most, most, -1},
		{least, most, most, least, 1},
	} {
		if got := share.Exact(c.part, c.total, c.weight, c.sum); got != c.want {
			t.Errorf("Exact(%d, %d, %d, %d) = %d; want %d", c.part, c.total, c.weight, c.sum, got, c.want)
		}
	}
}

package rate_test

import (
	"math"
	"math/big"
	"testing"

	"falsework/api"
	"falsework/mixer"
	"falsework/rate"
)

const (
	least = math.MinInt64
	most  = math.MaxInt64
)

// The sections Errors and Limits: callers may hold the numbers themselves against an answer.
func TestErrorNumbers(t *testing.T) {
	if _, e := rate.Points(-1); e != 51 {
		t.Error("a float that is no rate:", e)
	}
	if _, e := rate.Percent(10001); e != 51 {
		t.Error("points that are no rate:", e)
	}
	if _, e := rate.Rate(api.Terms{}, nil, 0); e != 52 {
		t.Error("no index yet:", e)
	}
}

func checkPoints(t *testing.T, percent float64, want int64, wantErr api.Errno) {
	t.Helper()
	if got, err := rate.Points(percent); got != want || err != wantErr {
		t.Errorf("Points(%v, bits %#x) = %d, %d; want %d, %d", percent, math.Float64bits(percent), got, err, want, wantErr)
	}
}

// P5.1
func TestPoints(t *testing.T) {
	for _, c := range []struct {
		percent float64
		want    int64
	}{
		{4.25, 425},
		{5, 500},
		{0.01, 1},
		{0.07, 7},
		{99.99, 9999},
		{100, 10000},
		{1.0 / 3, 33},
		{2.0 / 3, 67},
		{64, 6400},
		{0, 0},
		{math.Copysign(0, -1), 0},
		// The least floats, and the greatest one that has no first bit.
		{math.SmallestNonzeroFloat64, 0},
		{math.Float64frombits(1<<52 - 1), 0},
		{math.Float64frombits(1 << 52), 0},
		// A bit above the half, though a float's product would be the half itself.
		{0.005, 1},
		{math.Nextafter(0.005, 0), 0},
		{0.0049999, 0},
		{0.015, 1}, // that float is a bit below it
		{math.Nextafter(0.015, 1), 2},
		{99.995, 10000},
		{math.Nextafter(100, 0), 10000},
		// The powers of two on both sides of the first half.
		{1.0 / 512, 0},
		{1.0 / 256, 0},
		{1.0 / 128, 1},
	} {
		checkPoints(t, c.percent, c.want, api.OK)
	}
}

// P5.1: the odd eighths are the floats that are as near to two, each; of these the even one. A bit more or less, and it is the nearer one.
func TestPointsOfHalves(t *testing.T) {
	checkPoints(t, 0.125, 12, api.OK)
	checkPoints(t, 0.375, 38, api.OK)
	checkPoints(t, 0.625, 62, api.OK)
	checkPoints(t, 0.875, 88, api.OK)
	checkPoints(t, 99.625, 9962, api.OK)
	checkPoints(t, 99.875, 9988, api.OK)
	for eighths := int64(1); eighths < 800; eighths += 2 {
		percent := float64(eighths) / 8
		below := eighths * 100 / 8
		even := below + below%2
		checkPoints(t, percent, even, api.OK)
		checkPoints(t, math.Nextafter(percent, 0), below, api.OK)
		checkPoints(t, math.Nextafter(percent, 100), below+1, api.OK)
	}
}

// P5.1
func TestPointsErrFloat(t *testing.T) {
	for _, percent := range []float64{
		math.NaN(),
		math.Copysign(math.NaN(), -1),
		math.Float64frombits(0x7ff0000000000001),
		math.Float64frombits(0xffffffffffffffff),
		math.Inf(1),
		math.Inf(-1),
		-math.SmallestNonzeroFloat64,
		-0.001,
		-0.01,
		-4.25,
		-100,
		math.Nextafter(100, 101),
		100.001,
		100.01,
		101,
		127,
		128,
		10000,
		1 << 53,
		1 << 60,
		1 << 63,
		math.MaxFloat64,
		-math.MaxFloat64,
	} {
		checkPoints(t, percent, 0, api.ErrFloat)
	}
}

// modelPoints is exact: a fraction of whole numbers of any size, and of the two around it the nearer one.
func modelPoints(percent float64) int64 {
	exact := new(big.Rat).SetFloat64(percent)
	exact.Mul(exact, big.NewRat(100, 1))
	below := new(big.Int).Div(exact.Num(), exact.Denom()).Int64()
	switch exact.Sub(exact, big.NewRat(below, 1)).Cmp(big.NewRat(1, 2)) {
	case -1:
		return below
	case 1:
		return below + 1
	}
	return below + below%2
}

// P5.1: the floats around all points and all halves between them.
func TestPointsAroundHalvesByModel(t *testing.T) {
	for halves := range int64(20001) {
		percent := float64(halves) / 200
		before, behind := percent, percent
		for range 4 {
			checkPoints(t, before, modelPoints(before), api.OK)
			checkPoints(t, behind, modelPoints(behind), api.OK)
			before, behind = math.Nextafter(before, 0), math.Nextafter(behind, 100)
		}
	}
}

// P5.1: floats of all sizes, and, of all bits, those that are no rates too.
func TestPointsByModel(t *testing.T) {
	m := mixer.Mixer(51)
	hundred := math.Float64bits(100)
	for range 20000 {
		percent := float64(m.Next()%(100<<46+1)) / (1 << 46)
		checkPoints(t, percent, modelPoints(percent), api.OK)
		// Floats have the order of their bits: all of these are up to 100.
		percent = math.Float64frombits(m.Next() % (hundred + 1))
		checkPoints(t, percent, modelPoints(percent), api.OK)
		// From 2^-12 on, where the answer is not 0 alone.
		percent = math.Float64frombits(hundred - m.Next()%(20<<52))
		checkPoints(t, percent, modelPoints(percent), api.OK)
	}
	for range 20000 {
		above := math.Float64frombits(hundred + 1 + m.Next()%(1<<63-hundred-1))
		checkPoints(t, above, 0, api.ErrFloat)
		below := math.Float64frombits(1<<63 + 1 + m.Next()%(1<<63-1))
		checkPoints(t, below, 0, api.ErrFloat)
	}
}

func checkPercent(t *testing.T, points int64, want float64, wantErr api.Errno) {
	t.Helper()
	got, err := rate.Percent(points)
	// The bits: a minus zero is another one.
	if math.Float64bits(got) != math.Float64bits(want) || err != wantErr {
		t.Errorf("Percent(%d) = %v, %d; want %v, %d", points, got, err, want, wantErr)
	}
}

// P5.1
func TestPercent(t *testing.T) {
	checkPercent(t, 0, 0, api.OK)
	checkPercent(t, 1, 0.01, api.OK)
	checkPercent(t, 7, 0.07, api.OK)
	checkPercent(t, 29, 0.29, api.OK) // 29 times the float 0.01 is another one
	checkPercent(t, 425, 4.25, api.OK)
	checkPercent(t, 500, 5, api.OK)
	checkPercent(t, 9999, 99.99, api.OK)
	checkPercent(t, api.MaxRate, 100, api.OK)
}

// P5.1
func TestPercentErrFloat(t *testing.T) {
	for _, points := range []int64{-1, -425, -api.MaxRate, least, api.MaxRate + 1, 20000, 1 << 32, 1<<32 + 425, most} {
		checkPercent(t, points, 0, api.ErrFloat)
	}
}

// P5.1, P5.4: all points there are.
func TestPercentByModel(t *testing.T) {
	for points := range int64(api.MaxRate + 1) {
		nearest, _ := big.NewRat(points, 100).Float64()
		checkPercent(t, points, nearest, api.OK)
		percent, _ := rate.Percent(points)
		checkPoints(t, percent, points, api.OK)
	}
}

package share_test

import (
	"math/big"
	"slices"
	"testing"

	"falsework/api"
	"falsework/mixer"
	"falsework/share"
)

// Here every call is held against the same in numbers of any size.

func times(a, b int64) *big.Int {
	return new(big.Int).Mul(big.NewInt(a), big.NewInt(b))
}

// modelCut gives what is left over cent by cent, each to the greatest remainder that had none; the weights must be possible ones.
func modelCut(total int64, weights []int64) ([]int64, api.Errno) {
	sum := new(big.Int)
	for _, weight := range weights {
		sum.Add(sum, big.NewInt(weight))
	}
	if !sum.IsInt64() {
		return nil, api.ErrOver
	}
	parts := make([]int64, len(weights))
	rests := make([]*big.Int, len(weights))
	left := total
	for i, weight := range weights {
		part, rest := new(big.Int).DivMod(times(total, weight), sum, new(big.Int))
		parts[i], rests[i] = part.Int64(), rest
		left -= parts[i]
	}
	for ; left > 0; left-- {
		first := 0
		for i, rest := range rests {
			if rest.Cmp(rests[first]) > 0 {
				first = i
			}
		}
		parts[first]++
		rests[first] = big.NewInt(-1)
	}
	return parts, api.OK
}

// checkParts: P2.1's sum and P2.4, told by the parts alone.
func checkParts(t *testing.T, total int64, weights, parts []int64) {
	t.Helper()
	sum, whole := new(big.Int), new(big.Int)
	for i := range weights {
		sum.Add(sum, big.NewInt(weights[i]))
		whole.Add(whole, big.NewInt(parts[i]))
	}
	if whole.Cmp(big.NewInt(total)) != 0 {
		t.Errorf("Cut(%d, %d) = %d, in all %s", total, weights, parts, whole)
	}
	for i, part := range parts {
		off := new(big.Int).Mul(big.NewInt(part), sum)
		off.Sub(off, times(total, weights[i]))
		if off.CmpAbs(sum) >= 0 {
			t.Errorf("Cut(%d, %d) = %d: part %d is off by one or more", total, weights, parts, i)
		}
		if weights[i] == 0 && part != 0 {
			t.Errorf("Cut(%d, %d) = %d: weight %d is 0, its part isn't", total, weights, parts, i)
		}
	}
}

func checkCutByModel(t *testing.T, total int64, weights []int64) {
	t.Helper()
	want, wantErr := modelCut(total, weights)
	checkCut(t, total, weights, want, wantErr)
	if got, err := share.Cut(total, weights...); err == api.OK {
		checkParts(t, total, weights, got)
	}
}

// weightsOf: some of at most so many bits, not all of them 0; small ones have the same remainders often.
func weightsOf(m *mixer.Mixer, bits uint64) []int64 {
	list := make([]int64, 1+m.Next()%api.MaxShares)
	for i := range list {
		list[i] = int64(m.Next() >> (64 - bits))
		if m.Next()%4 == 0 {
			list[i] = 0
		}
	}
	if slices.Max(list) == 0 {
		list[m.Next()%uint64(len(list))] = 1
	}
	return list
}

// P2.1, P2.4: all small ones.
func TestSmallCuts(t *testing.T) {
	for total := range int64(13) {
		for code := 1; code < 6*6*6*6; code++ {
			weights := []int64{int64(code % 6), int64(code / 6 % 6), int64(code / 36 % 6), int64(code / 216)}
			checkCutByModel(t, total, weights)
		}
	}
}

// P2.1, P2.4: the weights of 57 bits at most, so that all of them add up.
func TestCutsOfAllSizes(t *testing.T) {
	m := mixer.Mixer(1)
	for range 20000 {
		checkCutByModel(t, m.AnySize()&most, weightsOf(&m, 1+m.Next()%57))
	}
}

// P2.1: weights of up to 63 bits, whose sum is a number of 64 bits or isn't.
func TestCutsNearTheEdge(t *testing.T) {
	m := mixer.Mixer(2)
	for range 5000 {
		list := weightsOf(&m, 58+m.Next()%6)
		checkCutByModel(t, most-m.AnySize()&most, list)
		// Few of them: else nearly every sum would be too great.
		checkCutByModel(t, most, append([]int64{1}, list[:min(2, len(list))]...))
	}
}

// P2.2
func TestStripByModel(t *testing.T) {
	m := mixer.Mixer(3)
	for range 20000 {
		total, points := m.AnySize(), m.AnySize()%(api.MaxRate+3)
		if total < 0 || points < 0 || points > api.MaxRate {
			checkStrip(t, total, points, 0, 0, api.ErrShare)
			continue
		}
		part := new(big.Int).Div(times(total, points), big.NewInt(10000)).Int64()
		checkStrip(t, total, points, part, total-part, api.OK)
	}
}

// P2.3
func TestExactByModel(t *testing.T) {
	m := mixer.Mixer(4)
	for range 20000 {
		part, total, weight, sum := m.AnySize(), m.AnySize(), m.AnySize(), m.AnySize()
		if got, want := share.Exact(part, total, weight, sum), times(part, sum).Cmp(times(total, weight)); got != want {
			t.Errorf("Exact(%d, %d, %d, %d) = %d; want %d", part, total, weight, sum, got, want)
		}
		if got := share.Exact(part, total, part, total); got != 0 {
			t.Errorf("Exact(%d, %d, %d, %d) = %d; want 0", part, total, part, total, got)
		}
	}
}

package tests

import (
	"math"
	"math/big"
	"slices"
	"sort"
	"testing"

	"loop.example/g00067/impl"
)

func alike(weight, count int) []int { return slices.Repeat([]int{weight}, count) }

func TestP2SharesByHand(t *testing.T) {
	for _, c := range []struct {
		amount        int
		weights, want []int
	}{
		{1000, []int{1, 1, 1}, []int{334, 333, 333}}, {1001, []int{1, 1, 1}, []int{334, 334, 333}}, {-1000, []int{1, 1, 1}, []int{-334, -333, -333}},
		{-10, []int{3, 0, 5}, []int{-4, 0, -6}}, {10, []int{3, 0, 5}, []int{4, 0, 6}}, {0, []int{3, 0, 5}, []int{0, 0, 0}},
		{1, []int{1, 1}, []int{1, 0}}, {-1, []int{1, 1}, []int{-1, 0}}, {1, []int{1, 2}, []int{0, 1}}, {1, []int{0, 1}, []int{0, 1}}, {1, []int{0, 0, 7, 0}, []int{0, 0, 1, 0}},
		{2, []int{1, 2, 1, 2}, []int{0, 1, 0, 1}}, {3, []int{1, 2, 1, 2}, []int{1, 1, 0, 1}}, {7, []int{5}, []int{7}}, {most, []int{1}, []int{most}}, {-most, []int{1000000}, []int{-most}},
		{5, []int{0, 1, 1, 0, 1}, []int{0, 2, 2, 0, 1}}, {100, []int{50, 30, 20}, []int{50, 30, 20}}, {1, []int{1, 1000000}, []int{0, 1}}, {most, []int{1000000, 1}, []int{999999000, 1000}},
		{most, []int{999999, 1000000}, []int{499999750, 500000250}},
	} {
		if list, code := impl.Share(c.amount, c.weights); code != impl.OK || !slices.Equal(list, c.want) {
			t.Errorf("Share(%d, %v) = %v, %d; not %v", c.amount, c.weights, list, code, c.want)
		}
	}
}

// shareByWords does what the document says with exact numbers: rounded down, then one by one to the greatest rests.
func shareByWords(amount int, weights []int) []int {
	size, sum := big.NewInt(int64(amount)), new(big.Int)
	size.Abs(size)
	for _, w := range weights {
		sum.Add(sum, big.NewInt(int64(w)))
	}
	parts, rests, order := make([]int, len(weights)), make([]*big.Int, len(weights)), make([]int, len(weights))
	left := int(size.Int64())
	for i, w := range weights {
		whole, rest := new(big.Int).QuoRem(new(big.Int).Mul(size, big.NewInt(int64(w))), sum, new(big.Int))
		parts[i], rests[i], order[i] = int(whole.Int64()), rest, i
		left -= parts[i]
	}
	sort.SliceStable(order, func(a, b int) bool { return rests[order[a]].Cmp(rests[order[b]]) > 0 })
	for _, i := range order[:left] {
		parts[i]++
	}
	if amount < 0 {
		for i := range parts {
			parts[i] = -parts[i]
		}
	}
	return parts
}

func anyWeights(pick func(int) int) []int {
	bound := []int{2, 4, 100, impl.MaxWeight + 1}[pick(4)]
	weights := make([]int, 1+pick(impl.MaxShares))
	for i := range weights {
		weights[i] = pick(bound)
	}
	return weights
}

func TestP2WhatIsSharedAddsUp(t *testing.T) {
	r := fixed()
	for range 30000 {
		amount, weights := anyAmount(r), anyWeights(r.IntN)
		list, code := impl.Share(amount, weights)
		if !slices.ContainsFunc(weights, func(w int) bool { return w > 0 }) {
			if code != impl.ErrZero || len(list) != 0 {
				t.Fatalf("Share(%d, %v) = %v, %d", amount, weights, list, code)
			}
			continue
		}
		sum := 0
		for _, part := range list {
			sum += part
		}
		if code != impl.OK || sum != amount {
			t.Fatalf("Share(%d, %v) adds up to %d, code %d", amount, weights, sum, code)
		}
		if want := shareByWords(amount, weights); !slices.Equal(list, want) {
			t.Fatalf("Share(%d, %v) = %v; not %v", amount, weights, list, want)
		}
	}
}

func TestP2AShareBelowNoughtMirrorsItsSize(t *testing.T) {
	r := fixed()
	for range 5000 {
		amount, weights := 1+r.IntN(most), anyWeights(r.IntN)
		weights[0] = 1
		above, _ := impl.Share(amount, weights)
		below, code := impl.Share(-amount, weights)
		for i := range above {
			above[i] = -above[i]
		}
		if code != impl.OK || !slices.Equal(above, below) {
			t.Fatalf("Share(%d, %v) = %v, %d; not %v", -amount, weights, below, code, above)
		}
	}
}

// What is left goes to the first of alike rests, and no part without a weight gets any of it.
func TestP2AlikeRestsAndWeightsOfNought(t *testing.T) {
	for left := range impl.MaxShares {
		list, code := impl.Share(600+left, alike(impl.MaxWeight, impl.MaxShares))
		for i, part := range list {
			if want := 10 + 1 - min(1, (i+1)/(left+1)); part != want {
				t.Fatalf("Share(%d): part %d is %d, not %d, code %d", 600+left, i, part, want, code)
			}
		}
	}
	r := fixed()
	for range 5000 {
		weights := anyWeights(r.IntN)
		list, _ := impl.Share(anyAmount(r), weights)
		for i, part := range list {
			if weights[i] == 0 && part != 0 {
				t.Fatalf("Share by %v gives %d to a weight of 0", weights, part)
			}
		}
	}
}

func TestShareFaults(t *testing.T) {
	for _, c := range []struct {
		name    string
		amount  int
		weights []int
		code    int
	}{
		{"no weights", 1, nil, impl.ErrBad}, {"an empty list", 1, []int{}, impl.ErrBad},
		{"an amount too great", most + 1, []int{1}, impl.ErrBad}, {"an amount too small", -most - 1, []int{1}, impl.ErrBad},
		{"the greatest number", math.MaxInt, []int{1}, impl.ErrBad}, {"the least number", math.MinInt, []int{1}, impl.ErrBad},
		{"a weight below 0", 1, []int{1, -1}, impl.ErrBad}, {"a weight too great", 1, []int{impl.MaxWeight + 1, 1}, impl.ErrBad},
		{"the least weight", 1, []int{1, math.MinInt}, impl.ErrBad}, {"the greatest weights", 1, []int{math.MaxInt, math.MaxInt}, impl.ErrBad},
		{"weights that cancel", 1, []int{1, -1, 0}, impl.ErrBad},
		{"one weight too many", 1, alike(1, impl.MaxShares+1), impl.ErrBad}, {"as many as a list may have", 1, alike(1, impl.MaxList), impl.ErrBad},
		{"one more than a list may have", 1, alike(1, impl.MaxList+1), impl.ErrLong},
		{"all 0", 1, []int{0, 0}, impl.ErrZero}, {"one 0", 0, []int{0}, impl.ErrZero}, {"60 times 0", most, alike(0, impl.MaxShares), impl.ErrZero},
		{"all 0 and a bad amount", most + 1, []int{0}, impl.ErrBad}, {"too many of 0", 1, alike(0, impl.MaxShares+1), impl.ErrBad},
		{"too long and bad", most + 1, alike(-1, impl.MaxList+1), impl.ErrLong}, {"too long and 0", 1, alike(0, impl.MaxList+1), impl.ErrLong},
	} {
		if list, code := impl.Share(c.amount, c.weights); code != c.code || len(list) != 0 {
			t.Errorf("%s: %v, %d; not %d", c.name, list, code, c.code)
		}
	}
	if list, code := impl.Share(-most, alike(impl.MaxWeight, impl.MaxShares)); code != impl.OK || len(list) != impl.MaxShares {
		t.Error("the most and the greatest weights", list, code)
	}
}

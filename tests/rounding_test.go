package tests

import (
	"math"
	"math/big"
	"math/rand/v2"
	"testing"

	"loop.example/g00067/impl"
)

const most = impl.MaxMoney

func modes() []int { return []int{impl.RdDown, impl.RdUp, impl.RdEven, impl.RdAway} }

// fixed gives the same numbers in every run.
func fixed() *rand.Rand { return rand.New(rand.NewPCG(67, 1)) }

func anyAmount(r *rand.Rand) int {
	switch r.IntN(4) {
	case 0:
		return r.IntN(41) - 20
	case 1:
		return most - r.IntN(3)
	case 2:
		return -most + r.IntN(3)
	}
	return r.IntN(2*most+1) - most
}

func anyRate(r *rand.Rand) impl.Rate {
	if r.IntN(2) == 0 {
		return impl.Rate{N: r.IntN(9), D: 1 + r.IntN(8)}
	}
	return impl.Rate{N: r.IntN(impl.MaxRate + 1), D: 1 + r.IntN(impl.MaxRate)}
}

func ratio(amount int, rates ...impl.Rate) *big.Rat {
	v := big.NewRat(int64(amount), 1)
	for _, r := range rates {
		v.Mul(v, big.NewRat(int64(r.N), int64(r.D)))
	}
	return v
}

// roundedRat rounds by the document's words, with exact numbers.
func roundedRat(v *big.Rat, mode int) *big.Int {
	down := new(big.Int).Div(v.Num(), v.Denom()) // Euclid's: the denominator is above 0, so it is the floor
	up := new(big.Int).Set(down)
	if !v.IsInt() {
		up.Add(up, big.NewInt(1))
	}
	below := new(big.Rat).Sub(v, new(big.Rat).SetInt(down))
	above := new(big.Rat).Sub(new(big.Rat).SetInt(up), v)
	near := below.Cmp(above)
	switch {
	case mode == impl.RdDown, mode != impl.RdUp && near < 0:
		return down
	case mode == impl.RdUp, near > 0:
		return up
	case mode == impl.RdEven && down.Bit(0) == 0, mode == impl.RdAway && down.CmpAbs(up) > 0:
		return down
	}
	return up
}

func wantRounded(v *big.Rat, mode int) (int, int) {
	n := roundedRat(v, mode)
	if n.CmpAbs(big.NewInt(most)) > 0 {
		return 0, impl.ErrOver
	}
	return int(n.Int64()), impl.OK
}

func TestModesAndBounds(t *testing.T) {
	if impl.RdDown != 1 || impl.RdUp != 2 || impl.RdEven != 3 || impl.RdAway != 4 {
		t.Error("modes", modes())
	}
	if impl.MaxMoney != 1000000000 || impl.MaxRate != 10000 || impl.MaxShares != 60 || impl.MaxWeight != 1000000 {
		t.Error("bounds")
	}
}

func TestRates(t *testing.T) {
	for _, c := range []struct {
		n, d int
		want bool
	}{
		{0, 1, true}, {1, 1, true}, {10000, 1, true}, {0, 10000, true}, {10000, 10000, true}, {2, 4, true},
		{-1, 1, false}, {10001, 1, false}, {1, 0, false}, {1, -1, false}, {1, 10001, false}, {0, 0, false}, {-1, -1, false},
		{math.MinInt, 1, false}, {math.MaxInt, 1, false}, {1, math.MinInt, false}, {1, math.MaxInt, false},
	} {
		if got := impl.RateOK(impl.Rate{N: c.n, D: c.d}); got != c.want {
			t.Errorf("RateOK(%d / %d) = %v", c.n, c.d, got)
		}
	}
}

func TestP2HalvesInEachMode(t *testing.T) {
	for _, c := range []struct{ amount, down, up, even, away int }{
		{0, 0, 0, 0, 0}, {1, 0, 1, 0, 1}, {2, 1, 1, 1, 1}, {3, 1, 2, 2, 2}, {5, 2, 3, 2, 3}, {7, 3, 4, 4, 4},
		{-1, -1, 0, 0, -1}, {-2, -1, -1, -1, -1}, {-3, -2, -1, -2, -2}, {-5, -3, -2, -2, -3}, {-7, -4, -3, -4, -4},
		{999999999, 499999999, 500000000, 500000000, 500000000}, {-999999999, -500000000, -499999999, -500000000, -500000000},
		{999999997, 499999998, 499999999, 499999998, 499999999}, {most, 500000000, 500000000, 500000000, 500000000},
	} {
		for i, want := range []int{c.down, c.up, c.even, c.away} {
			half := impl.Rate{N: 1, D: 2}
			if n, code := impl.Part(c.amount, half, i+1); n != want || code != impl.OK {
				t.Errorf("half of %d in mode %d: %d, code %d; not %d", c.amount, i+1, n, code, want)
			}
			if n, code := impl.Exchange(c.amount, impl.Rate{N: 1, D: 1}, impl.Rate{N: 2, D: 1}, i+1); n != want || code != impl.OK {
				t.Errorf("%d by 2 in mode %d: %d, code %d; not %d", c.amount, i+1, n, code, want)
			}
			if n, code := impl.Part(c.amount, impl.Rate{N: 5000, D: 10000}, i+1); n != want || code != impl.OK {
				t.Errorf("5000 / 10000 of %d in mode %d: %d, code %d; not %d", c.amount, i+1, n, code, want)
			}
		}
	}
}

func TestP2ThirdsInEachMode(t *testing.T) {
	for _, c := range []struct{ amount, down, up, near int }{
		{1, 0, 1, 0}, {2, 0, 1, 1}, {3, 1, 1, 1}, {4, 1, 2, 1}, {5, 1, 2, 2}, {-1, -1, 0, 0}, {-2, -1, 0, -1}, {-4, -2, -1, -1}, {-5, -2, -1, -2},
	} {
		for i, want := range []int{c.down, c.up, c.near, c.near} {
			if n, code := impl.Part(c.amount, impl.Rate{N: 1, D: 3}, i+1); n != want || code != impl.OK {
				t.Errorf("a third of %d in mode %d: %d, code %d; not %d", c.amount, i+1, n, code, want)
			}
		}
	}
}

func TestP2PartsAreRoundedAsTold(t *testing.T) {
	r := fixed()
	for range 60000 {
		amount, rate := anyAmount(r), anyRate(r)
		for _, mode := range modes() {
			want, wantCode := wantRounded(ratio(amount, rate), mode)
			if n, code := impl.Part(amount, rate, mode); n != want || code != wantCode {
				t.Fatalf("Part(%d, %v, %d) = %d, %d; not %d, %d", amount, rate, mode, n, code, want, wantCode)
			}
		}
	}
}

func TestP2ExchangesAreRoundedOnce(t *testing.T) {
	r := fixed()
	for range 60000 {
		amount, from, to := anyAmount(r), anyRate(r), anyRate(r)
		if to.N == 0 {
			to.N = 1
		}
		for _, mode := range modes() {
			want, wantCode := wantRounded(ratio(amount, from, impl.Rate{N: to.D, D: to.N}), mode)
			if n, code := impl.Exchange(amount, from, to, mode); n != want || code != wantCode {
				t.Fatalf("Exchange(%d, %v, %v, %d) = %d, %d; not %d, %d", amount, from, to, mode, n, code, want, wantCode)
			}
		}
	}
}

func TestP2WhatIsJustAnAmountIsNotOver(t *testing.T) {
	for _, c := range []struct{ amount, n, d, mode, want, code int }{
		{most, 1, 1, impl.RdUp, most, impl.OK}, {-most, 1, 1, impl.RdDown, -most, impl.OK},
		{most, 10000, 10000, impl.RdEven, most, impl.OK}, {most, 10000, 9999, impl.RdDown, 0, impl.ErrOver}, {-most, 10000, 1, impl.RdUp, 0, impl.ErrOver},
		{most, 0, 1, impl.RdUp, 0, impl.OK}, {-most, 0, 10000, impl.RdDown, 0, impl.OK},
		{666666667, 3, 2, impl.RdDown, most, impl.OK}, {666666667, 3, 2, impl.RdUp, 0, impl.ErrOver}, {666666667, 3, 2, impl.RdEven, most, impl.OK}, {666666667, 3, 2, impl.RdAway, 0, impl.ErrOver},
		{-666666667, 3, 2, impl.RdDown, 0, impl.ErrOver}, {-666666667, 3, 2, impl.RdUp, -most, impl.OK}, {-666666667, 3, 2, impl.RdEven, -most, impl.OK}, {-666666667, 3, 2, impl.RdAway, 0, impl.ErrOver},
	} {
		rate := impl.Rate{N: c.n, D: c.d}
		if n, code := impl.Part(c.amount, rate, c.mode); n != c.want || code != c.code {
			t.Errorf("Part(%d, %v, %d) = %d, %d", c.amount, rate, c.mode, n, code)
		}
		if n, code := impl.Exchange(c.amount, rate, impl.Rate{N: 7, D: 7}, c.mode); n != c.want || code != c.code {
			t.Errorf("Exchange(%d, %v, 7 / 7, %d) = %d, %d", c.amount, rate, c.mode, n, code)
		}
	}
}

func TestPartFaults(t *testing.T) {
	for _, c := range []struct{ amount, n, d, mode, code int }{
		{most + 1, 1, 1, 1, impl.ErrBad}, {-most - 1, 1, 1, 1, impl.ErrBad}, {math.MaxInt, 1, 1, 1, impl.ErrBad}, {math.MinInt, 1, 1, 1, impl.ErrBad},
		{1, -1, 1, 1, impl.ErrBad}, {1, 10001, 1, 1, impl.ErrBad}, {1, 1, 0, 1, impl.ErrBad}, {1, 1, -1, 1, impl.ErrBad}, {1, 1, 10001, 1, impl.ErrBad}, {0, 0, 0, 3, impl.ErrBad},
		{1, 1, 1, 0, impl.ErrKind}, {1, 1, 1, 5, impl.ErrKind}, {1, 1, 1, -1, impl.ErrKind}, {1, 1, 1, math.MaxInt, impl.ErrKind}, {1, 1, 1, math.MinInt, impl.ErrKind},
		{most + 1, 1, 1, 0, impl.ErrBad}, {1, 1, 0, 5, impl.ErrBad}, {most, 2, 1, 5, impl.ErrKind}, {most, 2, 1, 1, impl.ErrOver},
	} {
		rate := impl.Rate{N: c.n, D: c.d}
		if n, code := impl.Part(c.amount, rate, c.mode); n != 0 || code != c.code {
			t.Errorf("Part(%d, %v, %d) = %d, %d; not 0, %d", c.amount, rate, c.mode, n, code, c.code)
		}
		if n, code := impl.Exchange(c.amount, rate, impl.Rate{N: 1, D: 1}, c.mode); n != 0 || code != c.code {
			t.Errorf("Exchange(%d, %v, 1 / 1, %d) = %d, %d; not 0, %d", c.amount, rate, c.mode, n, code, c.code)
		}
	}
}

func TestExchangeFaults(t *testing.T) {
	one, none := impl.Rate{N: 1, D: 1}, impl.Rate{N: 0, D: 1}
	for _, c := range []struct {
		amount   int
		from, to impl.Rate
		mode     int
		code     int
	}{
		{1, one, impl.Rate{N: 1, D: 0}, 1, impl.ErrBad}, {1, one, impl.Rate{N: -1, D: 1}, 1, impl.ErrBad}, {1, one, impl.Rate{N: 10001, D: 1}, 1, impl.ErrBad}, {1, one, impl.Rate{N: 1, D: 10001}, 1, impl.ErrBad},
		{1, one, impl.Rate{}, 0, impl.ErrBad}, {most + 1, one, none, 0, impl.ErrBad}, {1, impl.Rate{N: 1, D: 0}, none, 0, impl.ErrBad},
		{1, one, none, 0, impl.ErrKind}, {1, one, none, 5, impl.ErrKind}, {1, one, none, 1, impl.ErrZero}, {0, none, none, 4, impl.ErrZero},
		{most, impl.Rate{N: 10000, D: 1}, impl.Rate{N: 0, D: 10000}, 2, impl.ErrZero}, {-most, impl.Rate{N: 10000, D: 1}, none, 2, impl.ErrZero},
		{most, impl.Rate{N: 10000, D: 1}, impl.Rate{N: 1, D: 10000}, 2, impl.ErrOver}, {-most, impl.Rate{N: 10000, D: 1}, impl.Rate{N: 1, D: 10000}, 1, impl.ErrOver},
		{most, one, impl.Rate{N: 9999, D: 10000}, 1, impl.ErrOver},
	} {
		if n, code := impl.Exchange(c.amount, c.from, c.to, c.mode); n != 0 || code != c.code {
			t.Errorf("Exchange(%d, %v, %v, %d) = %d, %d; not 0, %d", c.amount, c.from, c.to, c.mode, n, code, c.code)
		}
	}
	if n, code := impl.Exchange(5, none, one, impl.RdUp); n != 0 || code != impl.OK {
		t.Error("a rate of 0 that is exchanged from", n, code)
	}
	if n, code := impl.Exchange(most, impl.Rate{N: 10000, D: 1}, impl.Rate{N: 10000, D: 1}, impl.RdAway); n != most || code != impl.OK {
		t.Error("alike rates", n, code)
	}
}

func TestP2CashIsTheNearestMultiple(t *testing.T) {
	r := fixed()
	for range 200000 {
		amount, step := anyAmount(r), 1+r.IntN(1000)
		if r.IntN(2) == 0 {
			step = 1 + r.IntN(10)
		}
		n, code := impl.Cash(amount, step)
		want := nearestMultiple(amount, step)
		if want > most || want < -most {
			if n != 0 || code != impl.ErrOver {
				t.Fatalf("Cash(%d, %d) = %d, %d; not ErrOver", amount, step, n, code)
			}
		} else if n != want || code != impl.OK {
			t.Fatalf("Cash(%d, %d) = %d, %d; not %d", amount, step, n, code, want)
		}
	}
}

// nearestMultiple goes out from the multiple nearest to 0 while the next one is nearer.
func nearestMultiple(amount, step int) int {
	distance := func(n int) int { return max(amount-n, n-amount) }
	at, by := amount/step*step, step
	if amount < 0 {
		by = -step
	}
	for distance(at+by) < distance(at) {
		at += by
	}
	return at
}

func TestCashEdges(t *testing.T) {
	for _, c := range []struct{ amount, step, want, code int }{
		{0, 1, 0, 0}, {0, 1000, 0, 0}, {7, 1, 7, 0}, {-7, 1, -7, 0}, {1, 2, 0, 0}, {-1, 2, 0, 0}, {3, 2, 2, 0}, {-3, 2, -2, 0},
		{2, 5, 0, 0}, {3, 5, 5, 0}, {-2, 5, 0, 0}, {-3, 5, -5, 0}, {5, 10, 0, 0}, {-5, 10, 0, 0}, {6, 10, 10, 0}, {-6, 10, -10, 0}, {15, 10, 10, 0}, {-15, 10, -10, 0},
		{500, 1000, 0, 0}, {-500, 1000, 0, 0}, {501, 1000, 1000, 0}, {-501, 1000, -1000, 0}, {1500, 1000, 1000, 0}, {-1500, 1000, -1000, 0}, {499, 999, 0, 0}, {500, 999, 999, 0},
		{most, 1, most, 0}, {-most, 1, -most, 0}, {most, 1000, most, 0}, {-most, 1000, -most, 0},
		{most, 7, 0, impl.ErrOver}, {-most, 7, 0, impl.ErrOver}, {most, 3, 999999999, 0}, {-most, 3, -999999999, 0},
		{most + 1, 5, 0, impl.ErrBad}, {-most - 1, 5, 0, impl.ErrBad}, {math.MaxInt, 5, 0, impl.ErrBad}, {math.MinInt, 5, 0, impl.ErrBad},
		{1, 0, 0, impl.ErrRange}, {1, 1001, 0, impl.ErrRange}, {1, -1, 0, impl.ErrRange}, {1, math.MinInt, 0, impl.ErrRange}, {1, math.MaxInt, 0, impl.ErrRange},
		{most + 1, 0, 0, impl.ErrBad}, {most, 1001, 0, impl.ErrRange},
	} {
		if n, code := impl.Cash(c.amount, c.step); n != c.want || code != c.code {
			t.Errorf("Cash(%d, %d) = %d, %d; not %d, %d", c.amount, c.step, n, code, c.want, c.code)
		}
	}
}

package tests

import (
	"math"
	"math/big"
	"testing"

	"loop.example/g00067/impl"
)

func TestP5ByWeightByHand(t *testing.T) {
	for _, c := range []struct{ amount, grams, want int }{
		{1000, 1000, 1000}, {1000, 0, 0}, {0, 500, 0}, {0, impl.MaxGrams, 0}, {1, 1000, 1}, {1, 999, 1}, {1, 1, 0}, {199, 250, 50}, {-199, 250, -50}, {most, 1000, most}, {-most, 1000, -most}, {most, 1, 1000000}, {-most, 0, 0}, {most, 999, 999000000},
		// Just half a cent, the cent below even and odd, of either sign; and just beside it.
		{1, 500, 0}, {3, 500, 2}, {5, 500, 2}, {7, 500, 4}, {-1, 500, 0}, {-3, 500, -2}, {-5, 500, -2}, {-7, 500, -4}, {100, 5, 0}, {300, 5, 2}, {500, 5, 2}, {-500, 5, -2}, {-300, 5, -2}, {20, 25, 0}, {20, 75, 2}, {-20, 75, -2}, {1, 501, 1}, {1, 499, 0}, {-1, 501, -1}, {-1, 499, 0}, {5, 501, 3}, {5, 499, 2}, {-5, 501, -3}, {-5, 499, -2}, {1, 1500, 2}, {1, 2500, 2}, {-1, 1500, -2}, {-1, 2500, -2},
		{999999999, 500, 500000000}, {999999997, 500, 499999998}, {-999999999, 500, -500000000}, {-999999997, 500, -499999998},
		// The most that still is an amount.
		{10000100, impl.MaxGrams, 1000000000}, {-10000100, impl.MaxGrams, -1000000000}, {500000000, 2000, most}, {-500000000, 2000, -most}, {1000000, impl.MaxGrams, 99999000}, {666666667, 1500, most}, {-666666667, 1500, -most},
	} {
		if n, code := impl.ByWeight(c.amount, c.grams); n != c.want || code != impl.OK {
			t.Errorf("ByWeight(%d, %d) = %d, %d; not %d", c.amount, c.grams, n, code, c.want)
		}
	}
}

func TestP5ByWeightFaults(t *testing.T) {
	for _, c := range []struct{ amount, grams, want int }{
		{most, 1001, impl.ErrOver}, {-most, 1001, impl.ErrOver}, {most, impl.MaxGrams, impl.ErrOver}, {-most, impl.MaxGrams, impl.ErrOver}, {500000001, 2000, impl.ErrOver}, {-500000001, 2000, impl.ErrOver}, {10000101, impl.MaxGrams, impl.ErrOver}, {991080278, 1009, impl.ErrOver}, {-991080278, 1009, impl.ErrOver},
		{0, -1, impl.ErrRange}, {0, impl.MaxGrams + 1, impl.ErrRange}, {100, math.MinInt, impl.ErrRange}, {100, math.MaxInt, impl.ErrRange}, {most, impl.MaxGrams + 1, impl.ErrRange}, {-most, -1001, impl.ErrRange}, // ahead of ErrOver
		{most + 1, 0, impl.ErrBad}, {-most - 1, 0, impl.ErrBad}, {math.MinInt, 1, impl.ErrBad}, {math.MaxInt, 1, impl.ErrBad},
		{most + 1, -1, impl.ErrBad}, {-most - 1, impl.MaxGrams + 1, impl.ErrBad}, {math.MinInt, math.MinInt, impl.ErrBad}, {math.MaxInt, math.MaxInt, impl.ErrBad}, {most + 1, impl.MaxGrams, impl.ErrBad}, // ahead of ErrRange and ErrOver
	} {
		if n, code := impl.ByWeight(c.amount, c.grams); n != 0 || code != c.want {
			t.Errorf("ByWeight(%d, %d) = %d, %d; not code %d", c.amount, c.grams, n, code, c.want)
		}
	}
}

func TestP5ByWeightByWords(t *testing.T) {
	r := fixed()
	for i := range 100000 {
		amount, grams := anyAmount(r), r.IntN(impl.MaxGrams+1)
		switch i % 3 {
		case 0:
			grams = 500 * r.IntN(5)
		case 1:
			amount = r.IntN(20000001) - 10000000
		}
		want, wantCode := wantRounded(new(big.Rat).Mul(ratio(amount), big.NewRat(int64(grams), 1000)), impl.RdEven)
		if n, code := impl.ByWeight(amount, grams); n != want || code != wantCode {
			t.Fatalf("ByWeight(%d, %d) = %d, %d; not %d, %d", amount, grams, n, code, want, wantCode)
		}
	}
}

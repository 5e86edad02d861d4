package tests

import (
	"fmt"
	"math"
	"math/big"
	"math/rand/v2"
	"slices"
	"testing"

	"loop.example/g00067/impl"
)

func rung(from, n, d int) impl.Rung { return impl.Rung{From: from, Rate: rate(n, d)} }

func rungsOf(list ...impl.Rung) []impl.Rung { return list }

// yearRungs are right.
func yearRungs() []impl.Rung {
	return rungsOf(rung(100, 1, 100), rung(1000, 3, 100), rung(50000, 1, 7), rung(impl.MaxMoney, 1, 1))
}

func rungsByWords(rungs []impl.Rung) bool {
	if len(rungs) > 12 {
		return false
	}
	for place, one := range rungs {
		if one.From < 0 || one.From > 1000000000 || !impl.RateOK(one.Rate) || one.Rate.N > one.Rate.D {
			return false
		}
		if place > 0 && rungs[place-1].From >= one.From {
			return false
		}
	}
	return true
}

// bonusByWords looks from the last rung to the first for one that is reached.
func bonusByWords(rungs []impl.Rung, turnover int) (int, int) {
	if len(rungs) > 4096 {
		return 0, impl.ErrLong
	}
	if !rungsByWords(rungs) || turnover < 0 || turnover > 1000000000 {
		return 0, impl.ErrBad
	}
	for place := len(rungs) - 1; place >= 0; place-- {
		if one := rungs[place]; turnover >= one.From {
			times := new(big.Int).Mul(big.NewInt(int64(turnover)), big.NewInt(int64(one.Rate.N)))
			return int(times.Div(times, big.NewInt(int64(one.Rate.D))).Int64()), impl.OK
		}
	}
	return 0, impl.OK
}

func wantBonus(t *testing.T, rungs []impl.Rung, turnover, want, wantCode int) {
	t.Helper()
	if bonus, code := impl.BonusOf(rungs, turnover); bonus != want || code != wantCode {
		t.Errorf("BonusOf(%.300s, %d) = %d, %d; want %d, %d", fmt.Sprint(rungs), turnover, bonus, code, want, wantCode)
	}
}

func wantBonusByWords(t *testing.T, rungs []impl.Rung, turnover int) int {
	t.Helper()
	want, code := bonusByWords(rungs, turnover)
	wantBonus(t, rungs, turnover, want, code)
	return code
}

// manyRungs begin at 0, and each is one from the next.
func manyRungs(count int) []impl.Rung {
	var list []impl.Rung
	for place := range count {
		list = append(list, rung(place, place%5, 5))
	}
	return list
}

func rightRungs() [][]impl.Rung {
	return [][]impl.Rung{
		nil,
		{},
		yearRungs(),
		rungsOf(rung(0, 0, 1)),
		rungsOf(rung(0, 1, 1)),
		rungsOf(rung(impl.MaxMoney, impl.MaxRate, impl.MaxRate)),
		rungsOf(rung(0, 0, impl.MaxRate), rung(1, impl.MaxRate-1, impl.MaxRate), rung(2, 1, impl.MaxRate)),
		rungsOf(rung(0, 1, 1), rung(impl.MaxMoney, 0, 1)), // what is reached last counts, though it is less
		manyRungs(impl.MaxRungs - 1),
		manyRungs(impl.MaxRungs),
	}
}

// wrongRung are each wrong by one thing alone.
func wrongRung() []impl.Rung {
	list := rungsOf(rung(math.MinInt, 1, 2), rung(-1, 1, 2), rung(impl.MaxMoney+1, 1, 2), rung(math.MaxInt, 1, 2))
	for _, r := range []impl.Rate{{}, rate(1, 0), rate(0, 0), rate(-1, 1), rate(-1, -1), rate(1, -1), rate(2, 1), rate(3, 2), rate(8, 7), rate(10000, 9999), rate(10001, 10001), rate(1, 10001), rate(10001, 1), rate(math.MaxInt, math.MaxInt), rate(math.MinInt, 1), rate(1, math.MinInt), rate(math.MinInt, math.MinInt), rate(0, math.MaxInt)} {
		list = append(list, impl.Rung{From: 5000, Rate: r})
	}
	return list
}

func wrongRungs() [][]impl.Rung {
	lists := [][]impl.Rung{
		manyRungs(impl.MaxRungs + 1),
		manyRungs(impl.MaxRungs + 2),
		manyRungs(1000),
		manyRungs(impl.MaxList),
		make([]impl.Rung, 1),
		rungsOf(rung(5, 1, 2), rung(5, 1, 2)), // twice the same
		rungsOf(rung(0, 1, 2), rung(0, 1, 3)),
		rungsOf(rung(5, 1, 2), rung(4, 1, 2)), // falling
		rungsOf(rung(1, 1, 9), rung(5, 1, 2), rung(5, 1, 2)),
		rungsOf(rung(1, 1, 9), rung(5, 1, 2), rung(2, 1, 2)),
		rungsOf(rung(impl.MaxMoney, 1, 2), rung(impl.MaxMoney, 1, 2)),
		rungsOf(rung(impl.MaxMoney, 1, 2), rung(0, 1, 2)),
	}
	for _, wrong := range wrongRung() {
		lists = append(lists, rungsOf(wrong), rungsOf(rung(1, 1, 2), wrong), rungsOf(rung(1, 1, 2), wrong, rung(6000, 1, 2)), rungsOf(wrong, rung(6000, 1, 2)), append(manyRungs(impl.MaxRungs-1), wrong))
	}
	return lists
}

func longRungs() [][]impl.Rung {
	return [][]impl.Rung{manyRungs(impl.MaxList + 1), make([]impl.Rung, impl.MaxList+1), slices.Repeat(rungsOf(rung(5, 1, 2)), 2*impl.MaxList)}
}

func turnoversOutOfRange() []int {
	return []int{math.MinInt, math.MinInt + 1, -impl.MaxMoney, -1, impl.MaxMoney + 1, math.MaxInt32, math.MaxInt - 1, math.MaxInt}
}

func TestP19BonusByHand(t *testing.T) {
	for _, c := range []struct {
		rungs          []impl.Rung
		turnover, want int
	}{
		{nil, 0, 0},
		{nil, impl.MaxMoney, 0}, // no rungs, no bonus
		{yearRungs(), 0, 0},
		{yearRungs(), 99, 0}, // one less than the first From
		{yearRungs(), 100, 1},
		{yearRungs(), 199, 1}, // rounded down
		{yearRungs(), 200, 2},
		{yearRungs(), 999, 9},
		{yearRungs(), 1000, 30},
		{yearRungs(), 1033, 30},
		{yearRungs(), 1034, 31},
		{yearRungs(), 49999, 1499},
		{yearRungs(), 50000, 7142},
		{yearRungs(), 50001, 7143},
		{yearRungs(), impl.MaxMoney - 1, 142857142},
		{yearRungs(), impl.MaxMoney, impl.MaxMoney},
		{rungsOf(rung(0, 1, 2)), 0, 0},
		{rungsOf(rung(0, 1, 2)), 1, 0},
		{rungsOf(rung(0, 1, 2)), 2, 1},
		{rungsOf(rung(0, 1, 2)), 3, 1},
		{rungsOf(rung(0, 0, 1)), impl.MaxMoney, 0},
		{rungsOf(rung(0, 1, 1)), 777, 777},
		{rungsOf(rung(0, 9999, 10000)), impl.MaxMoney, 999900000},
		{rungsOf(rung(0, 9999, 10000)), 9999, 9998},
		{rungsOf(rung(0, 1, 10000)), 9999, 0},
		{rungsOf(rung(0, 1, 10000)), 10000, 1},
		{rungsOf(rung(0, 2, 3)), 100, 66},
		{rungsOf(rung(0, 5000, 7500)), 100, 66}, // a Rate is not reduced
		{rungsOf(rung(5, 1, 1), rung(10, 1, 2), rung(20, 0, 1)), 4, 0},
		{rungsOf(rung(5, 1, 1), rung(10, 1, 2), rung(20, 0, 1)), 5, 5},
		{rungsOf(rung(5, 1, 1), rung(10, 1, 2), rung(20, 0, 1)), 9, 9},
		{rungsOf(rung(5, 1, 1), rung(10, 1, 2), rung(20, 0, 1)), 10, 5}, // the last that is reached, not the best
		{rungsOf(rung(5, 1, 1), rung(10, 1, 2), rung(20, 0, 1)), 19, 9},
		{rungsOf(rung(5, 1, 1), rung(10, 1, 2), rung(20, 0, 1)), 20, 0},
		{rungsOf(rung(impl.MaxMoney, 1, 3)), impl.MaxMoney - 1, 0},
		{rungsOf(rung(impl.MaxMoney, 1, 3)), impl.MaxMoney, 333333333},
	} {
		wantBonus(t, c.rungs, c.turnover, c.want, impl.OK)
		if want, code := bonusByWords(c.rungs, c.turnover); want != c.want || code != impl.OK {
			t.Errorf("%v: by the words %d, %d", c, want, code)
		}
	}
}

// A turnover at each From, one more and one less.
func TestP19BonusAroundEachFrom(t *testing.T) {
	for _, rungs := range rightRungs() {
		turnovers := []int{0, 1, impl.MaxMoney - 1, impl.MaxMoney}
		for _, one := range rungs {
			turnovers = append(turnovers, max(one.From-1, 0), one.From, min(one.From+1, impl.MaxMoney))
		}
		for _, turnover := range turnovers {
			if code := wantBonusByWords(t, rungs, turnover); code != impl.OK {
				t.Errorf("BonusOf(%v, %d): %d", rungs, turnover, code)
			}
		}
	}
}

func TestBonusThatIsWrong(t *testing.T) {
	for _, rungs := range wrongRungs() {
		for _, turnover := range append(turnoversOutOfRange(), 0, 5, 10000, impl.MaxMoney) {
			wantBonus(t, rungs, turnover, 0, impl.ErrBad)
			wantBonusByWords(t, rungs, turnover)
		}
	}
	for _, rungs := range rightRungs() {
		for _, turnover := range turnoversOutOfRange() {
			wantBonus(t, rungs, turnover, 0, impl.ErrBad)
		}
	}
	for _, rungs := range longRungs() {
		for _, turnover := range append(turnoversOutOfRange(), 0, 5, impl.MaxMoney) {
			wantBonus(t, rungs, turnover, 0, impl.ErrLong)
		}
	}
}

func TestP19EverySmallBonus(t *testing.T) {
	rates := []impl.Rate{rate(0, 1), rate(1, 3), rate(1, 2), rate(1, 1), rate(3, 2), rate(1, 0)}
	seen := map[int]int{}
	for count := range 4 {
		eachCounts(2*count, -1, len(rates)-1, func(numbers []int) {
			var rungs []impl.Rung
			for place := range count {
				if numbers[2*place+1] < 0 {
					return
				}
				rungs = append(rungs, impl.Rung{From: numbers[2*place], Rate: rates[numbers[2*place+1]]})
			}
			for turnover := -1; turnover < 8; turnover++ {
				seen[wantBonusByWords(t, rungs, turnover)]++
			}
		})
	}
	if seen[impl.OK] < 1000 || seen[impl.ErrBad] < 1000 {
		t.Error("too few of one code", seen)
	}
}

// someRungs are right.
func someRungs(r *rand.Rand, count, mostFrom int) []impl.Rung {
	var starts []int
	for range count {
		starts = append(starts, r.IntN(mostFrom+1))
	}
	slices.Sort(starts)
	var list []impl.Rung
	for _, from := range slices.Compact(starts) {
		d := 1 + r.IntN(impl.MaxRate)
		list = append(list, rung(from, r.IntN(d+1), d))
	}
	return list
}

func TestP19BonusAgainstAPlainSearch(t *testing.T) {
	r := fixed()
	for range 20000 {
		mostFrom := []int{5, 100, 100000, impl.MaxMoney}[r.IntN(4)]
		rungs := someRungs(r, r.IntN(impl.MaxRungs+1), mostFrom)
		turnover := r.IntN(mostFrom + 1)
		if code := wantBonusByWords(t, rungs, turnover); code != impl.OK {
			t.Fatalf("BonusOf(%v, %d): %d", rungs, turnover, code)
		}
		bonus, _ := impl.BonusOf(rungs, turnover)
		if bonus < 0 || bonus > turnover {
			t.Fatalf("BonusOf(%v, %d) = %d", rungs, turnover, bonus)
		}
	}
}

// Rungs that are not reached say nothing, nor do those ahead of the last that is.
func TestP19OneRungSaysTheBonus(t *testing.T) {
	r := fixed()
	for range 2000 {
		rungs := someRungs(r, 1+r.IntN(impl.MaxRungs), 1000)
		for place, one := range rungs {
			next := 2000
			if place+1 < len(rungs) {
				next = rungs[place+1].From
			}
			turnover := one.From + r.IntN(next-one.From)
			want, _ := bonusByWords(rungs[place:place+1], turnover)
			wantBonus(t, rungs, turnover, want, impl.OK)
			wantBonus(t, rungs[:place+1], turnover, want, impl.OK)
			wantBonus(t, rungs[place:], turnover, want, impl.OK)
		}
	}
}

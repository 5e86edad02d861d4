package tests

import (
	"fmt"
	"math"
	"math/big"
	"testing"

	"loop.example/g00067/impl"
)

// enoughIn is the share of all cases in which so many units are enough; there are cases.
func enoughIn(odds []int, units int) *big.Rat {
	enough, all := 0, 0
	for asked, cases := range odds {
		all += cases
		if asked <= units {
			enough += cases
		}
	}
	return big.NewRat(int64(enough), int64(all))
}

func partsByWords(least, num, den int) bool {
	return den >= 1 && den <= 1000 && num >= least && num <= den
}

// safeByWords tries one number of units behind the other.
func safeByWords(table []int, days, num, den int) (int, int) {
	if code := oddsCodeByWords(table, days); code != impl.OK {
		return 0, code
	}
	if !partsByWords(1, num, den) {
		return 0, impl.ErrBad
	}
	odds, _ := oddsByWords(table, days)
	if noCases(table) {
		return 0, impl.ErrZero
	}
	units := 0
	for enoughIn(odds, units).Cmp(big.NewRat(int64(num), int64(den))) < 0 {
		units++
	}
	return units, impl.OK
}

func noCases(table []int) bool {
	for _, cases := range table {
		if cases != 0 {
			return false
		}
	}
	return true
}

func wantSafe(t *testing.T, table []int, days, num, den, want, wantCode int) {
	t.Helper()
	if got, code := impl.SafeLevel(table, days, num, den); got != want || code != wantCode {
		t.Errorf("SafeLevel(%.200s, %d, %d, %d) = %d, %d; want %d, %d", fmt.Sprint(table), days, num, den, got, code, want, wantCode)
	}
}

func wantNotSafe(t *testing.T, table []int, days, num, den, code int) {
	t.Helper()
	wantSafe(t, table, days, num, den, 0, code)
}

func wantSafeByWords(t *testing.T, table []int, days, num, den int) {
	t.Helper()
	want, code := safeByWords(table, days, num, den)
	wantSafe(t, table, days, num, den, want, code)
}

func partsThatAreWrong() [][2]int {
	return [][2]int{
		{0, 1}, {0, 2}, {0, 1000}, {-1, 1}, {-1, 1000}, {2, 1}, {3, 2}, {1001, 1000}, {math.MinInt, 1000}, {math.MaxInt, 1000}, {math.MinInt, 1}, {math.MaxInt, 1},
		{1, 0}, {0, 0}, {-1, 0}, {1, -1}, {-1, -1}, {-2, -1}, {-1, -2}, {1, 1001}, {1000, 1001}, {1001, 1001}, {0, 1001}, {1, math.MaxInt}, {math.MaxInt, math.MaxInt}, {1, math.MinInt}, {math.MinInt, math.MinInt},
	}
}

func TestP17SafeLevelsByHand(t *testing.T) {
	coins := []int{1, 1}
	for _, c := range []struct {
		table               []int
		days, num, den, out int
	}{
		{[]int{1, 2, 1}, 2, 1, 16, 0}, {[]int{1, 2, 1}, 2, 2, 16, 1}, {[]int{1, 2, 1}, 2, 5, 16, 1}, {[]int{1, 2, 1}, 2, 6, 16, 2}, {[]int{1, 2, 1}, 2, 11, 16, 2}, {[]int{1, 2, 1}, 2, 12, 16, 3}, {[]int{1, 2, 1}, 2, 15, 16, 3}, {[]int{1, 2, 1}, 2, 16, 16, 4},
		{coins, 1, 1, 2, 0}, {coins, 1, 501, 1000, 1}, {coins, 1, 500, 1000, 0}, {coins, 1, 499, 1000, 0}, {coins, 1, 1, 1, 1}, {coins, 1, 1, 1000, 0},
		{coins, 5, 1, 32, 0}, {coins, 5, 6, 32, 1}, {coins, 5, 7, 32, 2}, {coins, 5, 16, 32, 2}, {coins, 5, 17, 32, 3}, {coins, 5, 31, 32, 4}, {coins, 5, 32, 32, 5}, {coins, 5, 1, 2, 2},
		{[]int{7}, 1, 1, 1, 0}, {[]int{7}, 5, 1000, 1000, 0}, {[]int{7}, 5, 1, 1000, 0},
		{[]int{0, 0, 5}, 1, 1, 1000, 2}, {[]int{0, 0, 5}, 1, 1, 1, 2}, {[]int{0, 0, 5}, 3, 1, 1000, 6}, // fewer are never enough
		{[]int{5, 0, 0}, 1, 1, 1, 0}, {[]int{5, 0, 0}, 5, 1000, 1000, 0}, // the last places have no cases
		{[]int{1, 0, 1}, 1, 1, 2, 0}, {[]int{1, 0, 1}, 1, 2, 3, 2}, // a place without cases is passed over
		{[]int{29, 1}, 1, 29, 30, 0}, {[]int{29, 1}, 1, 30, 30, 1}, {[]int{29, 1}, 1, 967, 1000, 1}, {[]int{29, 1}, 1, 966, 1000, 0},
		{[]int{2, 1}, 1, 2, 3, 0}, {[]int{2, 1}, 1, 667, 1000, 1}, {[]int{2, 1}, 1, 666, 1000, 0}, // exactly, and not rounded
	} {
		wantSafe(t, c.table, c.days, c.num, c.den, c.out, impl.OK)
		if words, code := safeByWords(c.table, c.days, c.num, c.den); code != impl.OK || words != c.out {
			t.Errorf("%v: by the words %d, %d", c, words, code)
		}
	}
}

func TestSafeLevelAtTheEdges(t *testing.T) {
	parts := [][2]int{{1, 1}, {1, 2}, {2, 2}, {1, 1000}, {500, 1000}, {999, 1000}, {1000, 1000}, {1, 999}, {998, 999}, {999, 999}}
	for _, table := range rightTables() {
		for days := 1; days <= impl.MaxAhead; days++ {
			if len(table) > 5 && days > 2 {
				continue // the most of all are asked for below
			}
			for _, part := range parts {
				wantSafeByWords(t, table, days, part[0], part[1])
			}
		}
	}
	full := alike(impl.MaxOdds, impl.MaxTable)
	for _, part := range parts {
		wantSafeByWords(t, full, impl.MaxAhead, part[0], part[1])
	}
	wantSafe(t, full, impl.MaxAhead, 1, 2, 30, impl.OK)
	wantSafe(t, full, impl.MaxAhead, 1000, 1000, 60, impl.OK)
	wantSafe(t, append(alike(0, impl.MaxTable-1), impl.MaxOdds), impl.MaxAhead, 1, 1000, 60, impl.OK)
}

func TestSafeLevelWhatIsWrong(t *testing.T) {
	someDays := append(daysThatAreWrong(), 1, impl.MaxAhead)
	for _, part := range append(partsThatAreWrong(), [2]int{1, 1}, [2]int{1, 2}, [2]int{1000, 1000}) {
		for _, table := range wrongTables() {
			for _, days := range someDays {
				wantNotSafe(t, table, days, part[0], part[1], impl.ErrBad)
			}
		}
		for _, table := range longTables() { // too long ahead of what is wrong
			for _, days := range someDays {
				wantNotSafe(t, table, days, part[0], part[1], impl.ErrLong)
			}
		}
		for _, table := range rightTables() {
			for _, days := range daysThatAreWrong() {
				wantNotSafe(t, table, days, part[0], part[1], impl.ErrBad)
			}
		}
	}
	for _, part := range partsThatAreWrong() {
		if partsByWords(1, part[0], part[1]) {
			t.Fatal("these should be wrong", part)
		}
		for _, table := range rightTables() { // those without cases among them
			for _, days := range []int{1, 2, impl.MaxAhead} {
				wantNotSafe(t, table, days, part[0], part[1], impl.ErrBad)
			}
		}
	}
}

func TestSafeLevelOfTablesWithoutCases(t *testing.T) {
	for count := 1; count <= impl.MaxTable; count++ {
		for days := 1; days <= impl.MaxAhead; days++ {
			for _, part := range [][2]int{{1, 1}, {1, 2}, {1, 1000}, {1000, 1000}} {
				wantNotSafe(t, alike(0, count), days, part[0], part[1], impl.ErrZero)
			}
			wantNotSafe(t, alike(0, count), days, 0, 1, impl.ErrBad)
			wantCases(t, alike(0, count), days, alike(0, days*(count-1)+1), impl.OK)
			wantSafe(t, append(alike(0, count-1), 1), days, 1, 1000, days*(count-1), impl.OK)
		}
	}
	wantNotSafe(t, alike(0, impl.MaxTable+1), 1, 1, 2, impl.ErrBad)
	wantNotSafe(t, alike(0, impl.MaxList), 1, 1, 2, impl.ErrBad)
	wantNotSafe(t, alike(0, impl.MaxList+1), 1, 1, 2, impl.ErrLong)
	wantNotSafe(t, []int{0, 0}, 0, 1, 2, impl.ErrBad)
	wantNotSafe(t, []int{0, 0}, impl.MaxAhead+1, 1, 2, impl.ErrBad)
}

func TestP17WhatIsSafeIsJustEnough(t *testing.T) {
	r := fixed()
	for range 3000 {
		table := someTable(r, 1+r.IntN(impl.MaxTable), 1+r.IntN(impl.MaxOdds))
		days := 1 + r.IntN(impl.MaxAhead)
		num, den := someParts(r)
		num = max(num, 1)
		units, code := impl.SafeLevel(table, days, num, den)
		if noCases(table) {
			wantNotSafe(t, table, days, num, den, impl.ErrZero)
			continue
		}
		odds, _ := impl.Odds(table, days)
		share := big.NewRat(int64(num), int64(den))
		if code != impl.OK || units < 0 || units >= len(odds) || enoughIn(odds, units).Cmp(share) < 0 {
			t.Fatalf("SafeLevel(%v, %d, %d, %d) = %d, %d: not enough of %v", table, days, num, den, units, code, odds)
		}
		if units > 0 && enoughIn(odds, units-1).Cmp(share) >= 0 {
			t.Fatalf("SafeLevel(%v, %d, %d, %d) = %d: one unit less is enough of %v", table, days, num, den, units, odds)
		}
	}
}

func TestP17EveryShareOfASmallTable(t *testing.T) {
	seen := map[int]int{}
	for count := 1; count <= 3; count++ {
		eachCounts(count, 0, 2, func(table []int) {
			for days := 1; days <= 3; days++ {
				for den := range 28 {
					for num := -1; num <= den+1; num++ {
						want, code := safeByWords(table, days, num, den)
						wantSafe(t, table, days, num, den, want, code)
						seen[code]++
					}
				}
			}
		})
	}
	if seen[impl.OK] < 10000 || seen[impl.ErrBad] < 5000 || seen[impl.ErrZero] < 1000 {
		t.Error("too few of one kind", seen)
	}
}

// A share that is just reached, and the next greater one that the same den can tell.
func TestP17SharesThatAreJustReached(t *testing.T) {
	for _, table := range [][]int{{1, 2, 1}, {3, 1, 4, 1}, {0, 5, 5}, {1, 0, 0, 6}, {2, 3, 5, 0}, {9, 1}} {
		for days := 1; days <= 3; days++ {
			odds, _ := oddsByWords(table, days)
			all, enough := 0, 0
			for _, cases := range odds {
				all += cases
			}
			for units, cases := range odds {
				if enough += cases; all > 1000 || cases == 0 {
					continue
				}
				wantSafe(t, table, days, enough, all, units, impl.OK)
				if enough < all {
					wantSafeByWords(t, table, days, enough+1, all)
					if more, _ := impl.SafeLevel(table, days, enough+1, all); more <= units {
						t.Errorf("SafeLevel(%v, %d, %d, %d) = %d: that is enough in %d cases", table, days, enough+1, all, more, enough)
					}
				}
			}
		}
	}
}

func TestP17MoreSafetyNeverNeedsFewerUnits(t *testing.T) {
	r := fixed()
	for range 60 {
		table := someTable(r, 1+r.IntN(impl.MaxTable), impl.MaxOdds)
		table[r.IntN(len(table))] = 1
		days := 1 + r.IntN(impl.MaxAhead)
		ahead := 0
		for num := 1; num <= 1000; num++ {
			units, code := impl.SafeLevel(table, days, num, 1000)
			if code != impl.OK || units < ahead {
				t.Fatalf("SafeLevel(%v, %d, %d, 1000) = %d, %d; one part less needs %d", table, days, num, units, code, ahead)
			}
			ahead = units
			if num%10 == 0 {
				wantSafe(t, table, days, num/10, 100, units, impl.OK) // by its value alone
			}
		}
	}
}

package tests

import (
	"fmt"
	"math"
	"math/big"
	"math/rand/v2"
	"slices"
	"testing"

	"loop.example/g00067/impl"
)

func tableByWords(table []int) bool {
	if len(table) < 1 || len(table) > 13 {
		return false
	}
	return !slices.ContainsFunc(table, func(cases int) bool { return cases < 0 || cases > 30 })
}

func oddsCodeByWords(table []int, days int) int {
	if len(table) > 4096 {
		return impl.ErrLong
	}
	if !tableByWords(table) || days < 1 || days > 5 {
		return impl.ErrBad
	}
	return impl.OK
}

// countedOdds goes through the cases one by one, day by day.
func countedOdds(table []int, days int) []int {
	odds := make([]int, days*(len(table)-1)+1)
	var further func(day, units int)
	further = func(day, units int) {
		if day == days {
			odds[units]++
			return
		}
		for asked, cases := range table {
			for range cases {
				further(day+1, units+asked)
			}
		}
	}
	further(0, 0)
	return odds
}

// oddsByWords goes through what is asked for on each day, and tells in how many cases just that is.
func oddsByWords(table []int, days int) ([]int, int) {
	if code := oddsCodeByWords(table, days); code != impl.OK {
		return nil, code
	}
	sums := make([]big.Int, days*(len(table)-1)+1)
	var further func(day, units int, cases int64)
	further = func(day, units int, cases int64) {
		if day == days {
			sums[units].Add(&sums[units], big.NewInt(cases))
			return
		}
		for asked, times := range table {
			further(day+1, units+asked, cases*int64(times)) // at most 30 to the 5
		}
	}
	further(0, 0, 1)
	var odds []int
	for i := range sums {
		odds = append(odds, int(sums[i].Int64()))
	}
	return odds, impl.OK
}

func wantCases(t *testing.T, table []int, days int, want []int, wantCode int) {
	t.Helper()
	got, code := impl.Odds(table, days)
	if code != wantCode || !slices.Equal(got, want) {
		t.Errorf("Odds(%.200s, %d) = %v, %d; want %v, %d", fmt.Sprint(table), days, got, code, want, wantCode)
	}
}

func wantCasesByWords(t *testing.T, table []int, days int) {
	t.Helper()
	want, code := oddsByWords(table, days)
	wantCases(t, table, days, want, code)
}

// someTable has noughts now and then, at its ends too.
func someTable(r *rand.Rand, count, greatest int) []int {
	var table []int
	for range count {
		table = append(table, max(0, r.IntN(greatest+1+greatest/3)-greatest/3))
	}
	return table
}

// rightTables are right at each edge.
func rightTables() [][]int {
	tables := [][]int{{0}, {1}, {30}, {0, 0}, {0, 1}, {1, 0}, {0, 30}, {1, 2, 1}, {0, 0, 5, 0, 0}, {3, 1, 4, 1, 5, 9, 2, 6}}
	for count := 1; count <= impl.MaxTable; count++ {
		tables = append(tables, alike(0, count), alike(1, count), alike(impl.MaxOdds, count), placesTo(count))
	}
	for _, cases := range []int{0, 1, impl.MaxOdds - 1, impl.MaxOdds} {
		for place := range 3 {
			table := []int{5, 9, 2}
			table[place] = cases
			tables = append(tables, table)
		}
	}
	return tables
}

// wrongTables have one fault each.
func wrongTables() [][]int {
	tables := [][]int{nil, {}, alike(0, impl.MaxTable+1), alike(1, impl.MaxTable+1), append(alike(1, impl.MaxTable), 0), alike(1, 60), alike(1, impl.MaxList)}
	for _, cases := range []int{math.MinInt, -impl.MaxOdds, -1, impl.MaxOdds + 1, math.MaxInt} {
		tables = append(tables, []int{cases}, alike(cases, impl.MaxTable), append(alike(1, impl.MaxTable-1), cases))
		for place := range 3 {
			table := []int{5, 9, 2}
			table[place] = cases
			tables = append(tables, table)
		}
	}
	return tables
}

// longTables are beyond the limit, and most have other faults, too.
func longTables() [][]int {
	return [][]int{alike(0, impl.MaxList+1), alike(1, impl.MaxList+1), alike(-1, impl.MaxList+1), alike(math.MaxInt, impl.MaxList+1), alike(math.MinInt, 2*impl.MaxList)}
}

func daysThatAreWrong() []int {
	return []int{math.MinInt, -impl.MaxAhead, -1, 0, impl.MaxAhead + 1, impl.MaxTable, math.MaxInt}
}

func TestP17OddsByHand(t *testing.T) {
	for _, c := range []struct {
		table []int
		days  int
		want  []int
	}{
		{[]int{1, 2, 1}, 2, []int{1, 4, 6, 4, 1}},
		{[]int{1, 2, 1}, 1, []int{1, 2, 1}},
		{[]int{1, 1}, 5, []int{1, 5, 10, 10, 5, 1}},
		{[]int{2, 3}, 2, []int{4, 12, 9}},
		{[]int{2, 3}, 3, []int{8, 36, 54, 27}},
		{[]int{0, 1}, 5, []int{0, 0, 0, 0, 0, 1}},
		{[]int{1, 0}, 5, []int{1, 0, 0, 0, 0, 0}}, // up to the table's last place, though it has no cases
		{[]int{0, 2, 0}, 2, []int{0, 0, 4, 0, 0}},
		{[]int{3, 0, 1}, 2, []int{9, 0, 6, 0, 1}},
		{[]int{1, 1, 1, 1, 1, 1}, 2, []int{1, 2, 3, 4, 5, 6, 5, 4, 3, 2, 1}},
		{[]int{7}, 1, []int{7}},
		{[]int{7}, 3, []int{343}},
		{[]int{30}, 5, []int{24300000}},
		{[]int{0}, 5, []int{0}},
		{[]int{0, 0, 0}, 2, []int{0, 0, 0, 0, 0}}, // no cases
		{[]int{0, 0}, 1, []int{0, 0}},
		{[]int{30, 30}, 5, []int{24300000, 121500000, 243000000, 243000000, 121500000, 24300000}},
	} {
		wantCases(t, c.table, c.days, c.want, impl.OK)
		if words, code := oddsByWords(c.table, c.days); code != impl.OK || !slices.Equal(words, c.want) {
			t.Errorf("%v: by the words %v, %d", c, words, code)
		}
	}
}

func TestOddsAtTheEdges(t *testing.T) {
	for _, table := range rightTables() {
		for days := 1; days <= impl.MaxAhead; days++ {
			if len(table) > 7 && days > 3 {
				continue // the most of all are asked for below
			}
			if code := oddsCodeByWords(table, days); code != impl.OK {
				t.Fatal("this should be right", table, days)
			}
			wantCasesByWords(t, table, days)
		}
	}
	wantCasesByWords(t, alike(impl.MaxOdds, impl.MaxTable), impl.MaxAhead)
	wantCasesByWords(t, append(alike(0, impl.MaxTable-1), impl.MaxOdds), impl.MaxAhead)
	wantCases(t, alike(0, impl.MaxTable), impl.MaxAhead, alike(0, 61), impl.OK)
}

func TestOddsWhatIsWrong(t *testing.T) {
	for _, table := range wrongTables() {
		if tableByWords(table) {
			t.Fatal("this should be wrong", table)
		}
		for _, days := range append(daysThatAreWrong(), 1, 2, impl.MaxAhead) {
			wantCases(t, table, days, nil, impl.ErrBad)
		}
	}
	for _, table := range rightTables() {
		for _, days := range daysThatAreWrong() {
			wantCases(t, table, days, nil, impl.ErrBad)
		}
	}
	for _, table := range longTables() { // too long ahead of what is wrong
		for _, days := range append(daysThatAreWrong(), 1, impl.MaxAhead) {
			wantCases(t, table, days, nil, impl.ErrLong)
		}
	}
}

func TestP17OddsAreWhatAllCasesTell(t *testing.T) {
	for count := 1; count <= 3; count++ {
		eachCounts(count, 0, 3, func(table []int) {
			for days := 1; days <= 4; days++ {
				wantCases(t, table, days, countedOdds(table, days), impl.OK)
			}
		})
	}
	r := fixed()
	for range 300 {
		table := someTable(r, 1+r.IntN(impl.MaxTable), 3)
		days := 1 + r.IntN(3)
		wantCases(t, table, days, countedOdds(table, days), impl.OK)
	}
	for range 40 {
		table := someTable(r, 1+r.IntN(4), 2)
		wantCases(t, table, impl.MaxAhead, countedOdds(table, impl.MaxAhead), impl.OK)
	}
	for range 300 {
		wantCasesByWords(t, someTable(r, 1+r.IntN(impl.MaxTable), impl.MaxOdds), 1+r.IntN(4))
	}
	for range 5 {
		wantCasesByWords(t, someTable(r, impl.MaxTable, impl.MaxOdds), impl.MaxAhead)
	}
}

func TestP17AllCasesAreThoseOfOneDayForEachDay(t *testing.T) {
	r := fixed()
	for range 500 {
		table := someTable(r, 1+r.IntN(impl.MaxTable), 1+r.IntN(impl.MaxOdds))
		one := 0
		for _, cases := range table {
			one += cases
		}
		want := 1
		for days := 1; days <= impl.MaxAhead; days++ {
			want *= one
			odds, code := impl.Odds(table, days)
			all := 0
			for _, cases := range odds {
				all += cases
			}
			if code != impl.OK || all != want || len(odds) != days*(len(table)-1)+1 {
				t.Fatalf("Odds(%v, %d) = %v, %d: %d cases; want %d", table, days, odds, code, all, want)
			}
		}
	}
}

func TestP17DaysAreIndependent(t *testing.T) {
	r := fixed()
	for range 200 {
		table := someTable(r, 1+r.IntN(impl.MaxTable), impl.MaxOdds)
		backwards := slices.Clone(table)
		slices.Reverse(backwards)
		for days := 1; days <= impl.MaxAhead; days++ {
			odds, _ := impl.Odds(table, days)
			mirrored := slices.Clone(odds)
			slices.Reverse(mirrored)
			wantCases(t, backwards, days, mirrored, impl.OK)
			for early := 1; early < days; early++ { // some days, and those behind them
				first, _ := impl.Odds(table, early)
				then, _ := impl.Odds(table, days-early)
				joined := make([]int, len(odds))
				for a, cases := range first {
					for b, times := range then {
						joined[a+b] += cases * times
					}
				}
				wantCases(t, table, days, joined, impl.OK)
			}
		}
	}
}

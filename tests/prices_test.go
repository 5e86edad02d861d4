package tests

import (
	"fmt"
	"math"
	"math/rand/v2"
	"slices"
	"strings"
	"testing"

	"loop.example/g00067/impl"
)

func priceRow(article, zone string, level, from, to, amount int) impl.PriceRow {
	return impl.PriceRow{Article: article, Zone: zone, Level: level, From: from, To: to, Amount: amount}
}

// priceByWords leaves of the rows that hold, sentence by sentence, those that count.
func priceByWords(rows []impl.PriceRow, article, zone string, minute int) (int, int, int) {
	var left []int
	for i, row := range rows {
		if row.Article == article && (row.Zone == zone || row.Zone == "") && row.From <= minute && minute <= row.To-1 {
			left = append(left, i)
		}
	}
	for _, number := range []func(row impl.PriceRow) int{
		func(row impl.PriceRow) int { return row.Level },
		func(row impl.PriceRow) int {
			if row.Zone != "" {
				return 1
			}
			return 0
		},
		func(row impl.PriceRow) int { return row.From },
	} {
		greatest := math.MinInt
		for _, i := range left {
			greatest = max(greatest, number(rows[i]))
		}
		left = slices.DeleteFunc(left, func(i int) bool { return number(rows[i]) < greatest })
	}
	if len(left) == 0 {
		return 0, 0, impl.ErrNone
	}
	return rows[left[0]].Amount, left[0], impl.OK
}

// somePriceRows have few articles, zones, minutes and amounts, so that many rows meet and many are alike in what counts.
func somePriceRows(r *rand.Rand) []impl.PriceRow {
	rows := make([]impl.PriceRow, r.IntN(13))
	for i := range rows {
		from := r.IntN(20)
		rows[i] = priceRow([]string{"milk", "milk", "milk", "Milk", "käse"}[r.IntN(5)], []string{"", "north", "South"}[r.IntN(3)], 1+r.IntN(3), from, from+1+r.IntN(9), 100+r.IntN(4))
	}
	return rows
}

// manyPriceRows are of one article, each ending where the next begins, with amounts of their own.
func manyPriceRows(count int) []impl.PriceRow {
	rows := make([]impl.PriceRow, count)
	for i := range rows {
		rows[i] = priceRow("milk", "", 1, i, i+1, 1000+i)
	}
	return rows
}

func TestPriceBounds(t *testing.T) {
	if impl.MaxPrices != 80 || impl.MaxLevel != 5 || impl.MaxMinute != 10000000 || impl.MaxGrams != 99999 {
		t.Error("bounds", impl.MaxPrices, impl.MaxLevel, impl.MaxMinute, impl.MaxGrams)
	}
}

func rightPriceRows() [][]impl.PriceRow {
	long := strings.Repeat("n", impl.MaxName)
	same := priceRow("milk", "north", 1, 0, 10, 5)
	return [][]impl.PriceRow{
		nil, {}, {priceRow("milk", "", 1, 0, 1, 0)}, {priceRow("m", "n", 5, 0, impl.MaxMinute, most)}, {priceRow(long, long, 3, impl.MaxMinute-1, impl.MaxMinute, 1)}, {priceRow("käse", "_", 2, 7, 8, most)},
		// Rows may meet, and be alike, in any way.
		{same, same, same}, {priceRow("milk", "", 1, 0, 10, 5), priceRow("milk", "", 1, 9, 20, 6), priceRow("milk", "", 1, 3, 4, 7)},
		manyPriceRows(impl.MaxPrices), slices.Repeat([]impl.PriceRow{same}, impl.MaxPrices),
	}
}

func wrongPriceRows() [][]impl.PriceRow {
	lists := [][]impl.PriceRow{{{}}, manyPriceRows(impl.MaxPrices + 1), manyPriceRows(impl.MaxList), append(manyPriceRows(impl.MaxPrices-1), impl.PriceRow{})}
	var rows []impl.PriceRow
	for _, text := range []string{" ", "9", "a b", "a-b", "\x00", "\xff", "a\xff", "\xc3", "käse\xc3", strings.Repeat("n", impl.MaxName+1), strings.Repeat("n", impl.MaxText+1)} {
		rows = append(rows, priceRow(text, "", 1, 0, 9, 5), priceRow("milk", text, 1, 0, 9, 5))
	}
	rows = append(rows, priceRow("", "", 1, 0, 9, 5), priceRow("", "north", 1, 0, 9, 5))
	for _, level := range []int{0, -1, 6, -5, math.MinInt, math.MaxInt} {
		rows = append(rows, priceRow("milk", "", level, 0, 9, 5))
	}
	for _, m := range [][2]int{{0, 0}, {-1, 1}, {-1, -1}, {5, 5}, {6, 5}, {impl.MaxMinute, impl.MaxMinute}, {0, impl.MaxMinute + 1}, {impl.MaxMinute, impl.MaxMinute + 1}, {math.MinInt, 1}, {0, math.MaxInt}, {math.MinInt, math.MaxInt}, {math.MaxInt, math.MinInt}, {0, math.MinInt}, {1, -1}} {
		rows = append(rows, priceRow("milk", "", 1, m[0], m[1], 5))
	}
	for _, amount := range []int{-1, -most, most + 1, math.MinInt, math.MaxInt} {
		rows = append(rows, priceRow("milk", "", 1, 0, 9, amount))
	}
	// The fault stands alone, first, in the midst and last among rows that are right.
	good := priceRow("milk", "north", 5, 0, 9, 7)
	for _, row := range rows {
		lists = append(lists, []impl.PriceRow{row}, []impl.PriceRow{row, good}, []impl.PriceRow{good, row, good}, []impl.PriceRow{good, row})
	}
	return lists
}

func TestPriceRowsThatAreRight(t *testing.T) {
	for _, rows := range rightPriceRows() {
		if !impl.PricesOK(rows) {
			t.Errorf("PricesOK(%v) is false", rows)
		}
	}
	for level := 1; level <= 5; level++ {
		if !impl.PricesOK([]impl.PriceRow{priceRow("milk", "", level, 0, 1, 0)}) {
			t.Error("PricesOK is false of level", level)
		}
	}
}

func TestPriceRowsThatAreWrong(t *testing.T) {
	for _, rows := range append(wrongPriceRows(), manyPriceRows(impl.MaxList+1)) {
		if impl.PricesOK(rows) {
			t.Errorf("PricesOK(%.300s) is true", fmt.Sprint(rows))
		}
	}
}

func wantPrice(t *testing.T, rows []impl.PriceRow, article, zone string, minute, row int) {
	t.Helper()
	amount, at, code := impl.PriceAt(rows, article, zone, minute)
	if row < 0 {
		if amount != 0 || at != 0 || code != impl.ErrNone {
			t.Errorf("PriceAt(%v, %.20q, %.20q, %d) = %d, %d, %d; not ErrNone", rows, article, zone, minute, amount, at, code)
		}
		return
	}
	if amount != rows[row].Amount || at != row || code != impl.OK {
		t.Errorf("PriceAt(%v, %.20q, %.20q, %d) = %d, %d, %d; not row %d", rows, article, zone, minute, amount, at, code, row)
	}
}

func TestP5WhichRowCounts(t *testing.T) {
	for _, c := range []struct {
		what string
		rows []impl.PriceRow // the first of them counts, in north at minute 50, in whichever order they stand
	}{
		{"a greater Level against a Zone and a greater From", []impl.PriceRow{priceRow("milk", "", 2, 0, 90, 20), priceRow("milk", "north", 1, 40, 90, 10)}},
		{"a greater Level with less to pay or more", []impl.PriceRow{priceRow("milk", "", 5, 0, 90, 0), priceRow("milk", "", 4, 0, 90, most), priceRow("milk", "north", 3, 50, 51, 7)}},
		{"a Zone against none at one Level, though the other begins later", []impl.PriceRow{priceRow("milk", "north", 3, 0, 90, 30), priceRow("milk", "", 3, 50, 90, 31)}},
		{"a greater From, both with a Zone", []impl.PriceRow{priceRow("milk", "north", 3, 10, 90, 32), priceRow("milk", "north", 3, 9, 90, 33)}},
		{"a greater From, both without a Zone", []impl.PriceRow{priceRow("milk", "", 3, 10, 51, 34), priceRow("milk", "", 3, 9, 90, 35), priceRow("milk", "", 3, 0, 1000, 36)}},
		{"a greater From though it ends later", []impl.PriceRow{priceRow("milk", "", 3, 10, 90, 37), priceRow("milk", "", 3, 9, 51, 38)}},
		{"rows that do not hold are not asked", []impl.PriceRow{priceRow("milk", "", 1, 0, 90, 39), priceRow("milk", "south", 5, 0, 90, 40), priceRow("Milk", "north", 5, 0, 90, 41), priceRow("milk", "north", 5, 0, 50, 42), priceRow("milk", "north", 5, 51, 90, 43), priceRow("milk", "North", 5, 0, 90, 44), priceRow("mil", "north", 5, 0, 90, 45), priceRow("milk_", "north", 5, 0, 90, 46), priceRow("milk", "nort", 5, 0, 90, 47), priceRow("milk", "north_", 5, 0, 90, 48)}},
		{"Level, then Zone, then From", []impl.PriceRow{priceRow("milk", "north", 3, 7, 90, 49), priceRow("milk", "north", 3, 6, 90, 50), priceRow("milk", "", 3, 8, 90, 51), priceRow("milk", "north", 2, 9, 90, 52), priceRow("milk", "", 2, 10, 90, 53)}},
	} {
		for shift := range c.rows {
			rows := append(slices.Clone(c.rows[len(c.rows)-shift:]), c.rows[:len(c.rows)-shift]...)
			backwards := slices.Clone(rows)
			slices.Reverse(backwards)
			for _, list := range [][]impl.PriceRow{rows, backwards} {
				if amount, at, code := impl.PriceAt(list, "milk", "north", 50); code != impl.OK || amount != c.rows[0].Amount || list[at] != c.rows[0] {
					t.Errorf("%s: PriceAt(%v) = %d, %d, %d; not %v", c.what, list, amount, at, code, c.rows[0])
				}
			}
		}
	}
}

func TestP5OfAlikeRowsTheFirstCounts(t *testing.T) {
	for _, zone := range []string{"", "north"} {
		alike := []impl.PriceRow{priceRow("milk", zone, 2, 10, 60, 30), priceRow("milk", zone, 2, 10, 90, 20), priceRow("milk", zone, 2, 10, 70, 40), priceRow("milk", zone, 2, 10, 90, 20)}
		for first := range alike {
			rows := append([]impl.PriceRow{priceRow("milk", zone, 1, 20, 99, 1)}, alike[first:]...)
			wantPrice(t, rows, "milk", "north", 50, 1)
			wantPrice(t, slices.Repeat(rows, 2), "milk", "north", 50, 1)
		}
	}
	// When the first is over the next one counts.
	rows := []impl.PriceRow{priceRow("milk", "", 2, 10, 60, 30), priceRow("milk", "", 2, 10, 90, 20)}
	wantPrice(t, rows, "milk", "", 59, 0)
	wantPrice(t, rows, "milk", "", 60, 1)
}

func TestP5FirstAndLastMinuteOfARow(t *testing.T) {
	rows := []impl.PriceRow{priceRow("milk", "", 1, 10, 20, 100), priceRow("milk", "north", 1, 12, 14, 110), priceRow("bread", "", 1, 0, 1, 200), priceRow("bread", "", 1, 1, 2, 0), priceRow("egg", "", 1, impl.MaxMinute-1, impl.MaxMinute, most)}
	for _, c := range []struct {
		article, zone string
		minute, row   int
	}{
		{"milk", "", 9, -1}, {"milk", "", 10, 0}, {"milk", "", 12, 0}, {"milk", "", 19, 0}, {"milk", "", 20, -1},
		{"milk", "north", 9, -1}, {"milk", "north", 11, 0}, {"milk", "north", 12, 1}, {"milk", "north", 13, 1}, {"milk", "north", 14, 0}, {"milk", "north", 20, -1}, {"milk", "south", 13, 0},
		{"bread", "", -1, -1}, {"bread", "", 0, 2}, {"bread", "", 1, 3}, {"bread", "", 2, -1}, {"bread", "north", 1, 3},
		{"egg", "", impl.MaxMinute - 2, -1}, {"egg", "", impl.MaxMinute - 1, 4}, {"egg", "", impl.MaxMinute, -1}, {"egg", "", impl.MaxMinute + 1, -1},
		{"milk", "", math.MinInt, -1}, {"milk", "", math.MaxInt, -1}, {"egg", "", math.MinInt, -1}, {"egg", "north", math.MaxInt, -1},
		// Articles and zones that no row has, those that are no names among them; they are only held against those of the rows.
		{"", "", 12, -1}, {"", "north", 12, -1}, {"Milk", "", 12, -1}, {"mil", "", 12, -1}, {"milk ", "", 12, -1}, {"9 \xff", "", 12, -1}, {strings.Repeat("m", impl.MaxText), "", 12, -1},
		{"milk", "North", 12, 0}, {"milk", "nort", 12, 0}, {"milk", "north_", 12, 0}, {"milk", "9 \xff", 12, 0}, {"milk", strings.Repeat("n", impl.MaxText), 12, 0},
	} {
		wantPrice(t, rows, c.article, c.zone, c.minute, c.row)
	}
	for _, none := range [][]impl.PriceRow{nil, {}} {
		wantPrice(t, none, "milk", "", 0, -1)
	}
}

func TestP5OnlyAZonesOwnRowHoldsThere(t *testing.T) {
	rows := []impl.PriceRow{priceRow("milk", "north", 1, 0, 10, 100)}
	wantPrice(t, rows, "milk", "north", 5, 0)
	wantPrice(t, rows, "milk", "", 5, -1)
	wantPrice(t, rows, "milk", "south", 5, -1)
}

func TestP5PriceAtByWords(t *testing.T) {
	r := fixed()
	var met [2]int
	for range 2000 {
		rows := somePriceRows(r)
		for _, article := range []string{"milk", "Milk", "käse", "kase"} {
			for _, zone := range []string{"", "north", "South", "south"} {
				for minute := -1; minute <= 30; minute++ {
					want, wantRow, wantCode := priceByWords(rows, article, zone, minute)
					amount, row, code := impl.PriceAt(rows, article, zone, minute)
					if amount != want || row != wantRow || code != wantCode {
						t.Fatalf("PriceAt(%v, %q, %q, %d) = %d, %d, %d; not %d, %d, %d", rows, article, zone, minute, amount, row, code, want, wantRow, wantCode)
					}
					met[min(code, 1)]++
				}
			}
		}
	}
	if met[0] < 50000 || met[1] < 50000 {
		t.Error("too few of one kind:", met)
	}
}

func TestP5AsManyRowsAsThereMayBe(t *testing.T) {
	rows := manyPriceRows(impl.MaxPrices)
	for minute := range rows {
		wantPrice(t, rows, "milk", "north", minute, minute)
	}
	wantPrice(t, rows, "milk", "north", impl.MaxPrices, -1)
	rows[impl.MaxPrices-1] = priceRow("milk", "north", 1, 0, impl.MaxMinute, 7)
	wantPrice(t, rows, "milk", "north", 0, impl.MaxPrices-1)
	wantPrice(t, rows, "milk", "south", 0, 0)
}

// wantFault asks PriceAt and PriceSteps alike, steps also where the minutes are out of bounds: these come behind the faults that both look for.
func wantFault(t *testing.T, rows []impl.PriceRow, article, zone string, want int) {
	t.Helper()
	for _, minute := range []int{0, 3, -1, math.MinInt, math.MaxInt} {
		if amount, row, code := impl.PriceAt(rows, article, zone, minute); amount != 0 || row != 0 || code != want {
			t.Errorf("PriceAt(%.200s, minute %d) = %d, %d, %d; not code %d", fmt.Sprint(rows), minute, amount, row, code, want)
		}
	}
	for _, m := range [][2]int{{0, 9}, {3, 3}, {-1, 9}, {0, impl.MaxMinute + 1}, {math.MaxInt, math.MinInt}} {
		if steps, code := impl.PriceSteps(rows, article, zone, m[0], m[1]); len(steps) != 0 || code != want {
			t.Errorf("PriceSteps(%.200s, %v) = %v, %d; not code %d", fmt.Sprint(rows), m, steps, code, want)
		}
	}
}

func TestPriceFaults(t *testing.T) {
	tooLong := strings.Repeat("n", impl.MaxText+1)
	for _, rows := range wrongPriceRows() {
		wantFault(t, rows, "milk", "", impl.ErrBad)
		wantFault(t, rows, "", strings.Repeat("n", impl.MaxText), impl.ErrBad)
	}
	// What is too long comes ahead of rows that are wrong.
	for _, rows := range append(rightPriceRows(), wrongPriceRows()[:8]...) {
		wantFault(t, rows, tooLong, "", impl.ErrLong)
		wantFault(t, rows, "milk", tooLong, impl.ErrLong)
	}
	for _, rows := range [][]impl.PriceRow{manyPriceRows(impl.MaxList + 1), make([]impl.PriceRow, impl.MaxList+1)} {
		wantFault(t, rows, "milk", "", impl.ErrLong)
	}
	wantFault(t, make([]impl.PriceRow, impl.MaxList), "milk", "", impl.ErrBad)
}

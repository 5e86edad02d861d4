package tests

import (
	"fmt"
	"math"
	"math/rand/v2"
	"slices"
	"strings"
	"testing"

	"loop.example/g00067/impl"
)

func rate(n, d int) impl.Rate { return impl.Rate{N: n, D: d} }

func taxRow(class int, place string, from, to int) impl.TaxRow {
	return impl.TaxRow{Class: class, Place: place, From: from, To: to, Rate: rate(class, 100)}
}

// rightByWords asks for each row and for each day that two rows might share.
func rightByWords(rows []impl.TaxRow) bool {
	if len(rows) > impl.MaxTaxRows {
		return false
	}
	for i, a := range rows {
		if a.Class < 1 || a.Class > 9 || a.Place != "" && !impl.NameOK(a.Place) || a.From < 0 || a.From >= a.To || a.To > 100000 || !impl.RateOK(a.Rate) {
			return false
		}
		for _, b := range rows[:i] {
			for day := b.From; day < b.To && a.Class == b.Class && a.Place == b.Place; day++ {
				if a.From <= day && day <= a.To-1 {
					return false
				}
			}
		}
	}
	return true
}

func rateByWords(rows []impl.TaxRow, class int, place string, day int) (impl.Rate, int) {
	for _, asked := range []string{place, ""} {
		for _, row := range rows {
			if row.Class == class && row.Place == asked && row.From <= day && day <= row.To-1 {
				return row.Rate, impl.OK
			}
		}
	}
	return impl.Rate{}, impl.ErrNone
}

// someTaxRows are those given, which are right, and others with which they still are; their days are few, so that many rows end where others begin.
func someTaxRows(r *rand.Rand, rows []impl.TaxRow) []impl.TaxRow {
	for range r.IntN(impl.MaxTaxRows + 1) {
		from := r.IntN(12)
		row := impl.TaxRow{Class: 1 + r.IntN(impl.MaxClass), Place: []string{"", "north", "South", "käse"}[r.IntN(4)], From: from, To: from + 1 + r.IntN(6), Rate: anyRate(r)}
		if rightByWords(append(slices.Clone(rows), row)) {
			rows = append(rows, row)
		}
	}
	return rows
}

// manyTaxRows are of one class and place, each ending where the next begins.
func manyTaxRows(count int) []impl.TaxRow {
	rows := make([]impl.TaxRow, count)
	for i := range rows {
		rows[i] = taxRow(1, "", i, i+1)
	}
	return rows
}

func TestTaxBounds(t *testing.T) {
	if impl.MaxTaxRows != 60 || impl.MaxClass != 9 || impl.MaxDay != 100000 {
		t.Error("bounds", impl.MaxTaxRows, impl.MaxClass, impl.MaxDay)
	}
}

func rightTaxRows() [][]impl.TaxRow {
	long := strings.Repeat("n", impl.MaxName)
	return [][]impl.TaxRow{
		nil, {}, {taxRow(1, "", 0, 1)}, {taxRow(9, "north", 0, impl.MaxDay)}, {taxRow(5, long, impl.MaxDay-1, impl.MaxDay)}, {taxRow(1, "käse", 7, 8)}, {taxRow(1, "_", 7, 8)},
		{{Class: 1, To: 1, Rate: rate(0, 1)}}, {{Class: 1, To: 1, Rate: rate(impl.MaxRate, impl.MaxRate)}}, {{Class: 1, To: 1, Rate: rate(impl.MaxRate, 1)}},
		// One ends where the next begins, in either order, also with a hole that is filled.
		{taxRow(1, "", 0, 10), taxRow(1, "", 10, 20)}, {taxRow(1, "", 10, 20), taxRow(1, "", 0, 10)}, {taxRow(1, "n", 0, 10), taxRow(1, "n", 20, 30), taxRow(1, "n", 10, 20)},
		// The same days, but of another class or place; places differ by each byte.
		{taxRow(1, "", 0, 10), taxRow(2, "", 0, 10)}, {taxRow(1, "", 0, 10), taxRow(1, "n", 0, 10), taxRow(1, "N", 0, 10), taxRow(1, "nn", 0, 10), taxRow(2, "n", 0, 10)},
		manyTaxRows(impl.MaxTaxRows),
	}
}

func wrongTaxRows() [][]impl.TaxRow {
	lists := [][]impl.TaxRow{
		{{}}, manyTaxRows(impl.MaxTaxRows + 1), manyTaxRows(impl.MaxList),
		// Days in common, each way that two rows can meet.
		{taxRow(1, "", 0, 10), taxRow(1, "", 9, 20)}, {taxRow(1, "", 9, 20), taxRow(1, "", 0, 10)}, {taxRow(1, "", 0, 10), taxRow(1, "", 0, 10)}, {taxRow(1, "", 0, 10), taxRow(1, "", 3, 4)}, {taxRow(1, "", 3, 4), taxRow(1, "", 0, 10)},
		{taxRow(1, "n", 0, 10), taxRow(1, "n", 0, 1)}, {taxRow(1, "n", 0, 10), taxRow(1, "n", 9, 10)}, {taxRow(9, "n", 0, impl.MaxDay), taxRow(9, "n", impl.MaxDay-1, impl.MaxDay)}, {taxRow(1, "", 0, 10), taxRow(1, "n", 0, 10), taxRow(2, "", 0, 10), taxRow(1, "", 4, 5)},
		append(manyTaxRows(impl.MaxTaxRows-1), taxRow(1, "", 0, 1)),
	}
	for _, class := range []int{0, -1, 10, -9, math.MinInt, math.MaxInt} {
		lists = append(lists, []impl.TaxRow{{Class: class, To: 1, Rate: rate(1, 1)}})
	}
	for _, place := range []string{" ", "9", "a b", "a-b", "\x00", "\xff", "a\xff", "\xc3", "käse\xc3", strings.Repeat("n", impl.MaxName+1), strings.Repeat("n", impl.MaxText+1)} {
		lists = append(lists, []impl.TaxRow{{Class: 1, Place: place, To: 1, Rate: rate(1, 1)}})
	}
	for _, days := range [][2]int{{0, 0}, {-1, 1}, {-1, -1}, {5, 5}, {6, 5}, {impl.MaxDay, impl.MaxDay}, {0, impl.MaxDay + 1}, {impl.MaxDay, impl.MaxDay + 1}, {math.MinInt, 1}, {0, math.MaxInt}, {math.MinInt, math.MaxInt}, {math.MaxInt, math.MinInt}, {0, math.MinInt}, {1, -1}} {
		lists = append(lists, []impl.TaxRow{{Class: 1, From: days[0], To: days[1], Rate: rate(1, 1)}})
	}
	for _, r := range oddRates() {
		if !impl.RateOK(r) {
			lists = append(lists, []impl.TaxRow{{Class: 1, To: 1, Rate: r}})
		}
	}
	// The fault stands first, in the midst and last among rows that are right.
	for _, rows := range slices.Clone(lists) {
		if len(rows) == 1 {
			lists = append(lists, []impl.TaxRow{rows[0], taxRow(3, "", 0, 9)}, []impl.TaxRow{taxRow(3, "", 0, 9), rows[0], taxRow(4, "", 0, 9)}, []impl.TaxRow{taxRow(3, "", 0, 9), rows[0]})
		}
	}
	return lists
}

func TestTaxRowsThatAreRight(t *testing.T) {
	for _, rows := range rightTaxRows() {
		if !impl.TaxRowsOK(rows) {
			t.Errorf("TaxRowsOK(%v) is false", rows)
		}
	}
}

func TestTaxRowsThatAreWrong(t *testing.T) {
	for _, rows := range append(wrongTaxRows(), manyTaxRows(impl.MaxList+1)) {
		if impl.TaxRowsOK(rows) {
			t.Errorf("TaxRowsOK(%.300s) is true", fmt.Sprint(rows))
		}
	}
}

func TestTaxRowsOfAnyDays(t *testing.T) {
	r := fixed()
	right := 0
	for range 20000 {
		rows := make([]impl.TaxRow, 1+r.IntN(5))
		for i := range rows {
			from := r.IntN(11) - 1
			rows[i] = impl.TaxRow{Class: r.IntN(3) + 7 + r.IntN(2), Place: []string{"", "n", "m"}[r.IntN(3)], From: from, To: from + r.IntN(5), Rate: rate(r.IntN(9), 1+r.IntN(9))}
		}
		want := rightByWords(rows)
		if impl.TaxRowsOK(rows) != want {
			t.Fatalf("TaxRowsOK(%v) is not %v", rows, want)
		}
		if want {
			right++
		}
	}
	if right < 2000 || right > 18000 {
		t.Error("too few of one kind:", right)
	}
}

func TestTaxAtByHand(t *testing.T) {
	rows := []impl.TaxRow{
		{Class: 1, Place: "north", From: 10, To: 20, Rate: rate(16, 100)},
		{Class: 1, From: 0, To: 100, Rate: rate(19, 100)},
		{Class: 1, Place: "north", From: 30, To: 40, Rate: rate(32, 200)},
		{Class: 1, From: 200, To: impl.MaxDay, Rate: rate(20, 100)},
		{Class: 2, Place: "north", From: 0, To: 5, Rate: rate(0, 1)},
		{Class: 3, From: 10, To: 11, Rate: rate(impl.MaxRate, 1)},
	}
	none := impl.Rate{}
	for _, c := range []struct {
		class int
		place string
		day   int
		want  impl.Rate
	}{
		// A place with a row of its own: its first and its last day, the day ahead and the day behind.
		{1, "north", 9, rate(19, 100)}, {1, "north", 10, rate(16, 100)}, {1, "north", 19, rate(16, 100)}, {1, "north", 20, rate(19, 100)}, {1, "north", 29, rate(19, 100)}, {1, "north", 30, rate(32, 200)}, {1, "north", 39, rate(32, 200)}, {1, "north", 40, rate(19, 100)},
		// One without, none, and places that are no names.
		{1, "south", 10, rate(19, 100)}, {1, "", 10, rate(19, 100)}, {1, "North", 10, rate(19, 100)}, {1, "nort", 10, rate(19, 100)}, {1, "north_", 10, rate(19, 100)}, {1, "9 \xff", 10, rate(19, 100)}, {1, strings.Repeat("n", impl.MaxText), 10, rate(19, 100)},
		// Days that no row has.
		{1, "", 0, rate(19, 100)}, {1, "", 99, rate(19, 100)}, {1, "", 100, none}, {1, "north", 100, none}, {1, "", 199, none}, {1, "", 200, rate(20, 100)}, {1, "", impl.MaxDay - 1, rate(20, 100)}, {1, "", impl.MaxDay, none}, {1, "", -1, none}, {1, "", math.MinInt, none}, {1, "north", math.MaxInt, none},
		// A class that only a place has; a rate of 0; the greatest.
		{2, "north", 0, rate(0, 1)}, {2, "north", 4, rate(0, 1)}, {2, "north", 5, none}, {2, "", 0, none}, {2, "south", 0, none}, {3, "north", 10, rate(impl.MaxRate, 1)}, {3, "", 9, none}, {3, "", 11, none},
		// Classes that no row has, those that none can have among them.
		{4, "", 10, none}, {0, "", 10, none}, {-1, "", 10, none}, {10, "", 10, none}, {math.MinInt, "north", 10, none}, {math.MaxInt, "", 10, none},
	} {
		want := impl.OK
		if c.want == none {
			want = impl.ErrNone
		}
		if got, code := impl.TaxAt(rows, c.class, c.place, c.day); got != c.want || code != want {
			t.Errorf("TaxAt(%d, %.20q, %d) = %v, %d; not %v, %d", c.class, c.place, c.day, got, code, c.want, want)
		}
	}
}

func TestTaxAtByWords(t *testing.T) {
	r := fixed()
	for range 60 {
		rows := someTaxRows(r, nil)
		shuffled := slices.Clone(rows)
		r.Shuffle(len(shuffled), func(i, j int) { shuffled[i], shuffled[j] = shuffled[j], shuffled[i] })
		for class := 0; class <= impl.MaxClass+1; class++ {
			for _, place := range []string{"", "north", "South", "käse", "south", "kase"} {
				for day := -1; day <= 19; day++ {
					want, wantCode := rateByWords(rows, class, place, day)
					got, code := impl.TaxAt(rows, class, place, day)
					other, otherCode := impl.TaxAt(shuffled, class, place, day)
					if got != want || code != wantCode || other != want || otherCode != wantCode {
						t.Fatalf("TaxAt(%v, %d, %q, %d) = %v, %d, shuffled %v, %d; not %v, %d", rows, class, place, day, got, code, other, otherCode, want, wantCode)
					}
				}
			}
		}
	}
}

func TestTaxAtFaults(t *testing.T) {
	tooLong := strings.Repeat("n", impl.MaxText+1)
	for _, rows := range wrongTaxRows() {
		for _, day := range []int{0, 3, -1, math.MaxInt} {
			if got, code := impl.TaxAt(rows, 1, "", day); got != (impl.Rate{}) || code != impl.ErrBad {
				t.Errorf("TaxAt(%.200s, day %d) = %v, %d; not ErrBad", fmt.Sprint(rows), day, got, code)
			}
		}
		// What is too long comes ahead of rows that are wrong.
		if got, code := impl.TaxAt(rows, 1, tooLong, 0); got != (impl.Rate{}) || code != impl.ErrLong {
			t.Errorf("TaxAt of a place too long = %v, %d; not ErrLong", got, code)
		}
	}
	for _, rows := range rightTaxRows() {
		if got, code := impl.TaxAt(rows, 1, tooLong, 0); got != (impl.Rate{}) || code != impl.ErrLong {
			t.Errorf("TaxAt of a place too long = %v, %d; not ErrLong", got, code)
		}
	}
	for _, rows := range [][]impl.TaxRow{manyTaxRows(impl.MaxList + 1), make([]impl.TaxRow, impl.MaxList+1)} {
		if got, code := impl.TaxAt(rows, 1, "", 0); got != (impl.Rate{}) || code != impl.ErrLong {
			t.Errorf("TaxAt of %d rows = %v, %d; not ErrLong", len(rows), got, code)
		}
	}
	if got, code := impl.TaxAt(make([]impl.TaxRow, impl.MaxList), 1, "", 0); got != (impl.Rate{}) || code != impl.ErrBad {
		t.Errorf("TaxAt of MaxList rows = %v, %d; not ErrBad", got, code)
	}
	for _, rows := range [][]impl.TaxRow{nil, {}} {
		if got, code := impl.TaxAt(rows, 1, "", 0); got != (impl.Rate{}) || code != impl.ErrNone {
			t.Errorf("TaxAt of no rows = %v, %d; not ErrNone", got, code)
		}
	}
}

package tests

import (
	"fmt"
	"math"
	"slices"
	"strings"
	"testing"

	"loop.example/g00067/impl"
)

// stepsOf: a minute and an amount each.
func stepsOf(pairs ...[2]int) []impl.PriceStep {
	steps := make([]impl.PriceStep, len(pairs))
	for i, p := range pairs {
		steps[i] = impl.PriceStep{At: p[0], Amount: p[1]}
	}
	return steps
}

// stepsByWords goes through all minutes.
func stepsByWords(rows []impl.PriceRow, article, zone string, from, to int) []impl.PriceStep {
	var steps []impl.PriceStep
	ahead := 0
	for minute := from; minute <= to-1; minute++ {
		amount, _, code := priceByWords(rows, article, zone, minute)
		if code != impl.OK {
			amount = -1
		}
		if minute == from || amount != ahead {
			steps = append(steps, impl.PriceStep{At: minute, Amount: amount})
		}
		ahead = amount
	}
	return steps
}

func wantSteps(t *testing.T, what string, rows []impl.PriceRow, article, zone string, from, to int, want []impl.PriceStep) {
	t.Helper()
	if steps, code := impl.PriceSteps(rows, article, zone, from, to); code != impl.OK || !slices.Equal(steps, want) {
		t.Errorf("%s: PriceSteps(%v, %.20q, %.20q, %d, %d) = %v, %d; not %v", what, rows, article, zone, from, to, steps, code, want)
	}
}

func TestP5MinutesAtWhichNothingChanges(t *testing.T) {
	plain := priceRow("milk", "", 1, 10, 40, 100)
	for _, c := range []struct {
		what string
		rows []impl.PriceRow
		want []impl.PriceStep // of milk in north from minute 0 to minute 59
	}{
		{"no rows", nil, stepsOf([2]int{0, -1})},
		{"no row of the article", []impl.PriceRow{priceRow("Milk", "", 1, 10, 40, 100)}, stepsOf([2]int{0, -1})},
		{"no row of the zone", []impl.PriceRow{priceRow("milk", "south", 1, 10, 40, 100)}, stepsOf([2]int{0, -1})},
		{"one row", []impl.PriceRow{plain}, stepsOf([2]int{0, -1}, [2]int{10, 100}, [2]int{40, -1})},
		{"a price of 0 is a price", []impl.PriceRow{priceRow("milk", "", 1, 10, 40, 0)}, stepsOf([2]int{0, -1}, [2]int{10, 0}, [2]int{40, -1})},
		{"one ends where another of the same Amount begins", []impl.PriceRow{plain, priceRow("milk", "", 3, 40, 50, 100)}, stepsOf([2]int{0, -1}, [2]int{10, 100}, [2]int{50, -1})},
		{"one ends where another of another Amount begins", []impl.PriceRow{priceRow("milk", "north", 2, 40, 50, 101), plain}, stepsOf([2]int{0, -1}, [2]int{10, 100}, [2]int{40, 101}, [2]int{50, -1})},
		{"a hole of one minute", []impl.PriceRow{plain, priceRow("milk", "", 1, 41, 50, 100)}, stepsOf([2]int{0, -1}, [2]int{10, 100}, [2]int{40, -1}, [2]int{41, 100}, [2]int{50, -1})},
		{"a row that begins and ends without counting", []impl.PriceRow{priceRow("milk", "", 2, 10, 40, 100), priceRow("milk", "north", 1, 20, 30, 90)}, stepsOf([2]int{0, -1}, [2]int{10, 100}, [2]int{40, -1})},
		{"a row that begins without counting and counts later", []impl.PriceRow{priceRow("milk", "", 2, 10, 40, 100), priceRow("milk", "north", 1, 20, 50, 90)}, stepsOf([2]int{0, -1}, [2]int{10, 100}, [2]int{40, 90}, [2]int{50, -1})},
		{"a row that counts and has the same Amount", []impl.PriceRow{plain, priceRow("milk", "north", 2, 20, 30, 100)}, stepsOf([2]int{0, -1}, [2]int{10, 100}, [2]int{40, -1})},
		{"a row that counts for a while", []impl.PriceRow{plain, priceRow("milk", "north", 1, 20, 30, 99)}, stepsOf([2]int{0, -1}, [2]int{10, 100}, [2]int{20, 99}, [2]int{30, 100}, [2]int{40, -1})},
		{"a row that counts for one minute", []impl.PriceRow{plain, priceRow("milk", "", 1, 20, 21, 99)}, stepsOf([2]int{0, -1}, [2]int{10, 100}, [2]int{20, 99}, [2]int{21, 100}, [2]int{40, -1})},
		{"rows alike: the first counts while it holds", []impl.PriceRow{priceRow("milk", "", 1, 10, 20, 100), priceRow("milk", "", 1, 10, 30, 90)}, stepsOf([2]int{0, -1}, [2]int{10, 100}, [2]int{20, 90}, [2]int{30, -1})},
		{"several rows begin and end at one minute", []impl.PriceRow{plain, plain, priceRow("milk", "north", 1, 10, 40, 90), priceRow("milk", "", 4, 40, 50, 80), priceRow("milk", "", 3, 40, 50, 70)}, stepsOf([2]int{0, -1}, [2]int{10, 90}, [2]int{40, 80}, [2]int{50, -1})},
		{"rows of other articles and zones", []impl.PriceRow{plain, priceRow("bread", "", 5, 15, 45, 1), priceRow("milk", "south", 5, 16, 46, 2)}, stepsOf([2]int{0, -1}, [2]int{10, 100}, [2]int{40, -1})},
	} {
		wantSteps(t, c.what, c.rows, "milk", "north", 0, 60, c.want)
	}
}

func TestP5StepsThatBeginAnywhere(t *testing.T) {
	rows := []impl.PriceRow{priceRow("milk", "", 1, 20, 30, 100), priceRow("milk", "", 1, 30, 40, 90)}
	for _, c := range []struct {
		what     string
		from, to int
		want     []impl.PriceStep
	}{
		{"inside a row", 25, 60, stepsOf([2]int{25, 100}, [2]int{30, 90}, [2]int{40, -1})},
		{"where one begins", 20, 60, stepsOf([2]int{20, 100}, [2]int{30, 90}, [2]int{40, -1})},
		{"a minute ahead of it", 19, 60, stepsOf([2]int{19, -1}, [2]int{20, 100}, [2]int{30, 90}, [2]int{40, -1})},
		{"a minute behind it", 21, 60, stepsOf([2]int{21, 100}, [2]int{30, 90}, [2]int{40, -1})},
		{"where one ends and one begins", 30, 60, stepsOf([2]int{30, 90}, [2]int{40, -1})},
		{"where the last one ends", 40, 60, stepsOf([2]int{40, -1})},
		{"in the last minute", 39, 60, stepsOf([2]int{39, 90}, [2]int{40, -1})},
		{"behind all", 41, 60, stepsOf([2]int{41, -1})},
		{"they end where a row does", 0, 40, stepsOf([2]int{0, -1}, [2]int{20, 100}, [2]int{30, 90})},
		{"they end a minute behind", 0, 41, stepsOf([2]int{0, -1}, [2]int{20, 100}, [2]int{30, 90}, [2]int{40, -1})},
		{"they end where a row begins", 0, 20, stepsOf([2]int{0, -1})},
		{"they end behind its first minute", 0, 21, stepsOf([2]int{0, -1}, [2]int{20, 100})},
		{"just a row", 20, 30, stepsOf([2]int{20, 100})},
		{"one minute, none ahead", 0, 1, stepsOf([2]int{0, -1})},
		{"one minute, a row's first", 20, 21, stepsOf([2]int{20, 100})},
		{"one minute, a row's last", 29, 30, stepsOf([2]int{29, 100})},
		{"one minute, behind", 40, 41, stepsOf([2]int{40, -1})},
		{"the last minute of all", impl.MaxMinute - 1, impl.MaxMinute, stepsOf([2]int{impl.MaxMinute - 1, -1})},
		{"all minutes", 0, impl.MaxMinute, stepsOf([2]int{0, -1}, [2]int{20, 100}, [2]int{30, 90}, [2]int{40, -1})},
	} {
		wantSteps(t, c.what, rows, "milk", "north", c.from, c.to, c.want)
	}
	rows = []impl.PriceRow{priceRow("milk", "", 1, 0, impl.MaxMinute, most), priceRow("milk", "", 1, impl.MaxMinute-1, impl.MaxMinute, 0)}
	wantSteps(t, "all minutes", rows, "milk", "", 0, impl.MaxMinute, stepsOf([2]int{0, most}, [2]int{impl.MaxMinute - 1, 0}))
	wantSteps(t, "all minutes but the last", rows, "milk", "", 0, impl.MaxMinute-1, stepsOf([2]int{0, most}))
}

func TestP5StepsOfAsManyRowsAsThereMayBe(t *testing.T) {
	rows, want := manyPriceRows(impl.MaxPrices), make([]impl.PriceStep, impl.MaxPrices)
	for i := range want {
		want[i] = impl.PriceStep{At: i, Amount: 1000 + i}
	}
	wantSteps(t, "one behind the other", rows, "milk", "", 0, impl.MaxPrices, want)
	wantSteps(t, "and none behind", rows, "milk", "", 0, impl.MaxMinute, append(want, impl.PriceStep{At: impl.MaxPrices, Amount: -1}))
	// One within the other: each minute at which one begins or has ended is a step.
	want = want[:0]
	for i := range rows {
		rows[i] = priceRow("milk", "", 1, i, 1000-i, 100+i)
		want = append(want, impl.PriceStep{At: i, Amount: 100 + i})
	}
	for i := len(rows) - 1; i > 0; i-- {
		want = append(want, impl.PriceStep{At: 1000 - i, Amount: 100 + i - 1})
	}
	slices.Reverse(rows)
	wantSteps(t, "one within the other", rows, "milk", "", 0, impl.MaxMinute, append(want, impl.PriceStep{At: 1000, Amount: -1}))
}

func TestP5StepsOfWhatIsNoName(t *testing.T) {
	rows := []impl.PriceRow{priceRow("milk", "", 1, 2, 4, 100), priceRow("milk", "north", 1, 2, 4, 90)}
	for _, text := range []string{"", "9 \xff", "Milk", strings.Repeat("m", impl.MaxText)} {
		wantSteps(t, "no such article", rows, text, "north", 0, 9, stepsOf([2]int{0, -1}))
		wantSteps(t, "no such zone", rows, "milk", text, 0, 9, stepsOf([2]int{0, -1}, [2]int{2, 100}, [2]int{4, -1}))
	}
}

// The label tells steps, the till asks for a minute: at each minute both say one price.
func TestP5AtEachMinuteOnePriceHolds(t *testing.T) {
	r := fixed()
	for range 3000 {
		rows := somePriceRows(r)
		for _, zone := range []string{"", "north", "South", "south"} {
			from := r.IntN(32)
			to := from + 1 + r.IntN(32)
			steps, code := impl.PriceSteps(rows, "milk", zone, from, to)
			if want := stepsByWords(rows, "milk", zone, from, to); code != impl.OK || !slices.Equal(steps, want) {
				t.Fatalf("PriceSteps(%v, %q, %d, %d) = %v, %d; not %v", rows, zone, from, to, steps, code, want)
			}
			at := 0
			for minute := from; minute < to; minute++ {
				if at+1 < len(steps) && steps[at+1].At == minute {
					at++
				}
				amount, _, code := impl.PriceAt(rows, "milk", zone, minute)
				if code == impl.ErrNone {
					amount = -1
				}
				if amount != steps[at].Amount {
					t.Fatalf("at minute %d of %v in %q PriceAt says %d, PriceSteps %d", minute, rows, zone, amount, steps[at].Amount)
				}
			}
		}
	}
}

func TestP5StepsOverLongStretches(t *testing.T) {
	r := fixed()
	for range 300 {
		rows := make([]impl.PriceRow, 1+r.IntN(impl.MaxPrices))
		for i := range rows {
			from := r.IntN(impl.MaxMinute)
			rows[i] = priceRow("milk", []string{"", "north"}[r.IntN(2)], 1+r.IntN(5), from, from+1+r.IntN(impl.MaxMinute-from), r.IntN(3))
		}
		steps, code := impl.PriceSteps(rows, "milk", "north", 0, impl.MaxMinute)
		if code != impl.OK || len(steps) == 0 || steps[0].At != 0 {
			t.Fatalf("PriceSteps(%v) = %v, %d", rows, steps, code)
		}
		asked := []int{0, impl.MaxMinute - 1}
		for _, row := range rows {
			asked = append(asked, row.From, row.To-1, max(row.From-1, 0), min(row.To, impl.MaxMinute-1), r.IntN(impl.MaxMinute))
		}
		for _, minute := range asked {
			want, _, none := priceByWords(rows, "milk", "north", minute)
			if none != impl.OK {
				want = -1
			}
			at, _ := slices.BinarySearchFunc(steps, minute+1, func(s impl.PriceStep, m int) int { return s.At - m })
			if steps[at-1].Amount != want {
				t.Fatalf("at minute %d of %v the steps %v do not say %d", minute, rows, steps, want)
			}
		}
		for i := 1; i < len(steps); i++ {
			if steps[i].At <= steps[i-1].At || steps[i].Amount == steps[i-1].Amount {
				t.Fatalf("steps of %v do not rise or say nothing new: %v", rows, steps)
			}
		}
	}
}

func TestPriceStepsOutOfRange(t *testing.T) {
	for _, rows := range rightPriceRows() {
		for _, m := range [][2]int{{0, 0}, {5, 5}, {6, 5}, {-1, 5}, {-1, 0}, {-1, -1}, {impl.MaxMinute, impl.MaxMinute}, {0, impl.MaxMinute + 1}, {impl.MaxMinute, impl.MaxMinute + 1}, {math.MinInt, 5}, {0, math.MaxInt}, {math.MinInt, math.MaxInt}, {math.MaxInt, math.MinInt}, {math.MaxInt - 1, math.MaxInt}} {
			if steps, code := impl.PriceSteps(rows, "milk", "", m[0], m[1]); len(steps) != 0 || code != impl.ErrRange {
				t.Errorf("PriceSteps(%.100s, %v) = %v, %d; not ErrRange", fmt.Sprint(rows), m, steps, code)
			}
		}
	}
}

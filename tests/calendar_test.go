package tests

import (
	"fmt"
	"math"
	"math/rand/v2"
	"slices"
	"testing"

	"loop.example/g00067/impl"
)

// weekOf sets the flags of these days, which count from 0 to 6.
func weekOf(days ...int) []bool {
	week := make([]bool, 7)
	for _, day := range days {
		week[day] = true
	}
	return week
}

func allWeek() []bool { return slices.Repeat([]bool{true}, 7) }

// everyWeek are count days, each 7 behind the one ahead.
func everyWeek(first, count int) []int {
	var days []int
	for number := range count {
		days = append(days, first+7*number)
	}
	return days
}

// inARow are count days one behind the other.
func inARow(first, count int) []int {
	var days []int
	for number := range count {
		days = append(days, first+number)
	}
	return days
}

func calendarCodeByWords(week []bool, holidays []int) int {
	if len(week) > 4096 || len(holidays) > 4096 {
		return impl.ErrLong
	}
	if len(week) != 7 || len(holidays) > 60 {
		return impl.ErrBad
	}
	for place, holiday := range holidays {
		if holiday < 0 || holiday > 100000 || place > 0 && holiday <= holidays[place-1] {
			return impl.ErrBad
		}
	}
	return impl.OK
}

// openByWords goes through the days from first to last and leaves out those that are not open.
func openByWords(week []bool, holidays []int, first, last int) []int {
	isHoliday := map[int]int{}
	for _, holiday := range holidays {
		isHoliday[holiday]++
	}
	var open []int
	for day := first; day <= last; day++ {
		if week[day%7] && isHoliday[day] == 0 {
			open = append(open, day)
		}
	}
	return open
}

func nextByWords(week []bool, holidays []int, day int) (int, int) {
	if code := calendarCodeByWords(week, holidays); code != impl.OK {
		return 0, code
	}
	if day < 0 || day > 100000 {
		return 0, impl.ErrRange
	}
	open := openByWords(week, holidays, day, day+399)
	if len(open) == 0 {
		return 0, impl.ErrNone
	}
	return open[0], impl.OK
}

func deliveriesByWords(week []bool, holidays []int, from, to int) ([]int, int) {
	if code := calendarCodeByWords(week, holidays); code != impl.OK {
		return nil, code
	}
	if from < 0 || from > to || to > 100000 || to-from > 400 {
		return nil, impl.ErrRange
	}
	return openByWords(week, holidays, from, to-1), impl.OK
}

func wantNext(t *testing.T, week []bool, holidays []int, day, want, wantCode int) {
	t.Helper()
	if got, code := impl.NextDay(week, holidays, day); got != want || code != wantCode {
		t.Errorf("NextDay(%.200s, %.200s, %d) = %d, %d; want %d, %d", fmt.Sprint(week), fmt.Sprint(holidays), day, got, code, want, wantCode)
	}
}

func wantNoNext(t *testing.T, week []bool, holidays []int, day, code int) {
	t.Helper()
	wantNext(t, week, holidays, day, 0, code)
}

func wantNextByWords(t *testing.T, week []bool, holidays []int, day int) {
	t.Helper()
	want, code := nextByWords(week, holidays, day)
	wantNext(t, week, holidays, day, want, code)
}

func wantDeliveries(t *testing.T, week []bool, holidays []int, from, to int, want []int, wantCode int) {
	t.Helper()
	if got, code := impl.DeliveryDays(week, holidays, from, to); code != wantCode || !slices.Equal(got, want) {
		t.Errorf("DeliveryDays(%.200s, %.200s, %d, %d) = %.200s, %d; want %.200s, %d", fmt.Sprint(week), fmt.Sprint(holidays), from, to, fmt.Sprint(got), code, fmt.Sprint(want), wantCode)
	}
}

func wantNoDeliveries(t *testing.T, week []bool, holidays []int, from, to, code int) {
	t.Helper()
	wantDeliveries(t, week, holidays, from, to, nil, code)
}

func wantDeliveriesByWords(t *testing.T, week []bool, holidays []int, from, to int) {
	t.Helper()
	want, code := deliveriesByWords(week, holidays, from, to)
	wantDeliveries(t, week, holidays, from, to, want, code)
}

func rightWeeks() [][]bool {
	weeks := [][]bool{weekOf(), allWeek(), weekOf(0, 3), weekOf(0, 1, 2, 3, 4)}
	for day := range 7 {
		weeks = append(weeks, weekOf(day))
	}
	return weeks
}

func wrongWeeks() [][]bool {
	weeks := [][]bool{nil, {}}
	for _, count := range []int{1, 6, 8, 14, 400, impl.MaxList} {
		weeks = append(weeks, make([]bool, count), slices.Repeat([]bool{true}, count))
	}
	return weeks
}

func longWeeks() [][]bool {
	return [][]bool{make([]bool, impl.MaxList+1), slices.Repeat([]bool{true}, 2*impl.MaxList)}
}

func rightHolidays() [][]int {
	return [][]int{
		nil, {}, {0}, {1}, {3, 7}, {0, 1, 2}, {impl.MaxDay - 1}, {impl.MaxDay}, {impl.MaxDay - 1, impl.MaxDay}, {0, impl.MaxDay},
		inARow(0, impl.MaxHolidays), everyWeek(0, impl.MaxHolidays), everyWeek(3, impl.MaxHolidays), everyWeek(impl.MaxDay-7*59, impl.MaxHolidays), inARow(impl.MaxDay-59, impl.MaxHolidays),
	}
}

func wrongHolidays() [][]int {
	lists := [][]int{
		{-1}, {-1, 5}, {impl.MaxDay + 1}, {5, impl.MaxDay + 1}, {math.MinInt}, {math.MaxInt}, {math.MinInt, math.MaxInt},
		{5, 5}, {0, 0}, {impl.MaxDay, impl.MaxDay}, {1, 2, 2}, {1, 1, 2}, // twice the same
		{5, 4}, {1, 0}, {1, 3, 2}, {2, 1, 3}, {0, 9, 8, 20}, {impl.MaxDay, 0}, // not rising
		inARow(0, impl.MaxHolidays+1), everyWeek(0, impl.MaxHolidays+1), inARow(0, impl.MaxList), // one more
		append(inARow(0, 59), 58), append(inARow(0, 59), 57), append(inARow(0, 59), impl.MaxDay+1), append(inARow(0, 59), -1), append([]int{-1}, inARow(0, 59)...),
		make([]int, impl.MaxHolidays), make([]int, impl.MaxHolidays+1), make([]int, impl.MaxList),
	}
	return lists
}

func longHolidays() [][]int {
	return [][]int{inARow(0, impl.MaxList+1), make([]int, impl.MaxList+1), alike(math.MinInt, 2*impl.MaxList)}
}

func daysOutOfRange() []int {
	return []int{math.MinInt, math.MinInt + 1, -impl.MaxSearch, -7, -1, impl.MaxDay + 1, impl.MaxDay + 7, math.MaxInt - impl.MaxSearch, math.MaxInt - 1, math.MaxInt}
}

// stretchesOutOfRange are pairs from and to; a difference that wraps is among them.
func stretchesOutOfRange() [][2]int {
	return [][2]int{
		{1, 0}, {9, 8}, {impl.MaxDay, impl.MaxDay - 1}, {impl.MaxDay, 0}, // from above to
		{-1, 0}, {-1, 5}, {-1, -1}, {-5, -3}, {-400, 0}, {math.MinInt, 0}, {math.MinInt, math.MinInt}, {math.MinInt, math.MaxInt}, // from below 0
		{0, -1}, {0, math.MinInt}, {5, math.MinInt}, {math.MaxInt, math.MinInt}, {math.MaxInt, 0}, {math.MaxInt, math.MaxInt},
		{impl.MaxDay, impl.MaxDay + 1}, {impl.MaxDay + 1, impl.MaxDay + 1}, {impl.MaxDay - 399, impl.MaxDay + 1}, {impl.MaxDay - 10, math.MaxInt}, // to beyond MaxDay
		{0, 401}, {1, 402}, {7, 1000}, {impl.MaxDay - 401, impl.MaxDay}, {0, impl.MaxDay}, {0, math.MaxInt}, // farther apart than MaxSearch
	}
}

func someHolidays(r *rand.Rand, near int) []int {
	var days []int
	for range r.IntN(impl.MaxHolidays + 1) {
		if day := near + r.IntN(120) - 40; day >= 0 && day <= impl.MaxDay {
			days = append(days, day)
		}
	}
	slices.Sort(days)
	return slices.Compact(days)
}

func someWeek(r *rand.Rand) []bool {
	week := make([]bool, 7)
	for range r.IntN(5) {
		week[r.IntN(7)] = true
	}
	return week
}

// someDay is often near one end.
func someDay(r *rand.Rand) int {
	return []int{r.IntN(20), impl.MaxDay - r.IntN(20), r.IntN(impl.MaxDay + 1), impl.MaxDay - 390 - r.IntN(20)}[r.IntN(4)]
}

func TestP18NextDaysByHand(t *testing.T) {
	sunThu := weekOf(0, 3)
	for _, c := range []struct {
		week      []bool
		holidays  []int
		day, want int
	}{
		{sunThu, []int{3, 7}, 1, 10}, {sunThu, []int{3, 7}, 0, 0}, {sunThu, nil, 1, 3}, {sunThu, nil, 3, 3}, {sunThu, nil, 4, 7}, {sunThu, []int{3}, 1, 7}, {sunThu, []int{3}, 3, 7}, {sunThu, []int{4}, 3, 3}, {sunThu, []int{0}, 0, 3},
		{allWeek(), nil, 0, 0}, {allWeek(), nil, 6, 6}, {allWeek(), []int{5}, 5, 6}, {allWeek(), []int{5, 6, 7}, 5, 8}, {allWeek(), []int{5, 7}, 5, 6}, {allWeek(), []int{6, 7}, 5, 5},
		{weekOf(6), nil, 0, 6}, {weekOf(6), nil, 6, 6}, {weekOf(6), nil, 7, 13}, {weekOf(0), nil, 1, 7}, {weekOf(1), nil, 0, 1}, {weekOf(0), []int{0, 7, 14}, 0, 21},
		{allWeek(), inARow(0, 60), 0, 60}, {allWeek(), inARow(0, 60), 59, 60}, {allWeek(), inARow(1, 60), 0, 0}, {weekOf(0), everyWeek(0, 60), 420, 420}, {weekOf(0), everyWeek(0, 60), 413, 420},
		{allWeek(), nil, impl.MaxDay, impl.MaxDay}, {allWeek(), []int{impl.MaxDay}, impl.MaxDay, impl.MaxDay + 1}, // no holiday is above MaxDay
		{weekOf(5), nil, impl.MaxDay, impl.MaxDay}, {weekOf(6), nil, impl.MaxDay, impl.MaxDay + 1}, {weekOf(4), nil, impl.MaxDay, impl.MaxDay + 6}, {weekOf(5), []int{impl.MaxDay}, impl.MaxDay, impl.MaxDay + 7}, // it is 5 modulo 7
		{weekOf(4), []int{impl.MaxDay - 1}, impl.MaxDay - 1, impl.MaxDay + 6},
	} {
		wantNext(t, c.week, c.holidays, c.day, c.want, impl.OK)
		wantNextByWords(t, c.week, c.holidays, c.day)
	}
}

// From an open day on there are 58 of its kind within MaxSearch days, the last of them at its end.
func TestP18TheLastOfMaxSearchDays(t *testing.T) {
	for _, day := range []int{0, 1, 5, 6, 7, 50000, impl.MaxDay - 406} {
		week := weekOf(day % 7)
		wantNext(t, week, everyWeek(day, 56), day, day+392, impl.OK)
		wantNext(t, week, everyWeek(day, 57), day, day+399, impl.OK) // the last of MaxSearch days
		wantNoNext(t, week, everyWeek(day, 58), day, impl.ErrNone)
		wantNoNext(t, week, everyWeek(day, 59), day, impl.ErrNone)
		wantNoNext(t, week, everyWeek(day, 58), day+6, impl.ErrNone)   // the next one of its kind is one day too far
		wantNext(t, week, everyWeek(day, 58), day+7, day+406, impl.OK) // the last one
		for later := 1; later <= 6; later++ {                          // the days of this kind are 57 then, and end ahead of the last day
			wantNext(t, weekOf((day+later)%7), everyWeek(day+later, 56), day, day+later+392, impl.OK)
			wantNoNext(t, weekOf((day+later)%7), everyWeek(day+later, 57), day, impl.ErrNone)
		}
	}
	for _, day := range []int{0, 1, 6, 1000, impl.MaxDay - 1, impl.MaxDay} {
		for _, holidays := range [][]int{nil, {0}, inARow(day/2, impl.MaxHolidays)} {
			wantNoNext(t, weekOf(), holidays, day, impl.ErrNone)
		}
	}
	near := impl.MaxDay - 397 // all that are behind MaxDay are no holidays
	wantNext(t, weekOf(near%7), everyWeek(near, 57), near, near+399, impl.OK)
	wantNext(t, allWeek(), inARow(impl.MaxDay-59, 60), impl.MaxDay-59, impl.MaxDay+1, impl.OK)
	wantNext(t, weekOf(impl.MaxDay%7), []int{impl.MaxDay - 7, impl.MaxDay}, impl.MaxDay-13, impl.MaxDay+7, impl.OK)
}

func TestNextDayAtTheEdges(t *testing.T) {
	seen := map[int]int{}
	for _, week := range rightWeeks() {
		for _, holidays := range rightHolidays() {
			for _, day := range []int{0, 1, 6, 7, 8, 59, 60, 61, 99599, 99600, 99601, impl.MaxDay - 60, impl.MaxDay - 8, impl.MaxDay - 7, impl.MaxDay - 1, impl.MaxDay} {
				wantNextByWords(t, week, holidays, day)
				_, code := impl.NextDay(week, holidays, day)
				seen[code]++
			}
			for _, day := range daysOutOfRange() {
				wantNoNext(t, week, holidays, day, impl.ErrRange) // also of a week without a flag
			}
		}
	}
	if len(seen) != 2 || seen[impl.OK] < 1000 || seen[impl.ErrNone] < 100 {
		t.Error("these should be right", seen)
	}
}

func TestP18DeliveriesByHand(t *testing.T) {
	sunThu := weekOf(0, 3)
	for _, c := range []struct {
		week     []bool
		holidays []int
		from, to int
		want     []int
	}{
		{sunThu, []int{7}, 0, 15, []int{0, 3, 10, 14}}, {sunThu, nil, 0, 15, []int{0, 3, 7, 10, 14}}, {sunThu, nil, 0, 14, []int{0, 3, 7, 10}}, {sunThu, nil, 1, 14, []int{3, 7, 10}},
		{sunThu, []int{0, 3, 7, 10, 14}, 0, 15, nil}, {sunThu, []int{1, 2, 4, 5}, 0, 7, []int{0, 3}},
		{allWeek(), nil, 5, 9, []int{5, 6, 7, 8}}, {allWeek(), nil, 5, 6, []int{5}}, {allWeek(), []int{5}, 5, 6, nil}, {allWeek(), nil, 5, 5, nil}, {allWeek(), nil, 0, 0, nil}, {allWeek(), nil, impl.MaxDay, impl.MaxDay, nil},
		{allWeek(), []int{6, 8}, 5, 9, []int{5, 7}}, {allWeek(), []int{5, 9}, 5, 9, []int{6, 7, 8}}, {allWeek(), []int{4, 9}, 5, 9, []int{5, 6, 7, 8}},
		{weekOf(), nil, 0, 400, nil}, {allWeek(), nil, 0, 400, inARow(0, 400)}, {allWeek(), nil, impl.MaxDay - 400, impl.MaxDay, inARow(impl.MaxDay-400, 400)}, {allWeek(), inARow(0, 60), 0, 400, inARow(60, 340)},
		{weekOf(5), nil, impl.MaxDay - 7, impl.MaxDay, []int{impl.MaxDay - 7}}, {weekOf(4), nil, impl.MaxDay - 7, impl.MaxDay, []int{impl.MaxDay - 1}}, // MaxDay itself is never told
		{weekOf(0), everyWeek(0, 60), 0, 400, nil}, {weekOf(0), everyWeek(7, 57), 0, 400, []int{0}}, {weekOf(0), everyWeek(0, 57), 0, 400, []int{399}}, {weekOf(0), everyWeek(0, 57), 0, 399, nil},
	} {
		wantDeliveries(t, c.week, c.holidays, c.from, c.to, c.want, impl.OK)
		wantDeliveriesByWords(t, c.week, c.holidays, c.from, c.to)
	}
}

func TestDeliveriesAtTheEdges(t *testing.T) {
	const last = impl.MaxDay
	for _, week := range rightWeeks() {
		for _, holidays := range rightHolidays() {
			for _, c := range [][2]int{{0, 0}, {0, 1}, {1, 1}, {0, 399}, {0, 400}, {1, 401}, {5, 5}, {60, 70}, {last, last}, {last - 1, last}, {last - 1, last - 1}, {last - 399, last}, {last - 400, last}, {last - 401, last - 1}} {
				wantDeliveriesByWords(t, week, holidays, c[0], c[1])
				if _, code := impl.DeliveryDays(week, holidays, c[0], c[1]); code != impl.OK {
					t.Errorf("DeliveryDays(%v, %v, %v): %d", week, holidays, c, code)
				}
			}
			for _, c := range stretchesOutOfRange() {
				wantNoDeliveries(t, week, holidays, c[0], c[1], impl.ErrRange)
			}
		}
	}
}

// Faults come in their order: too long, wrong, out of range, and none.
func TestCalendarsWhatIsWrong(t *testing.T) {
	days := append(daysOutOfRange(), 0, 5, impl.MaxDay)
	stretches := append(stretchesOutOfRange(), [2]int{0, 0}, [2]int{0, 10}, [2]int{impl.MaxDay, impl.MaxDay})
	wantBoth := func(week []bool, holidays []int, code int) {
		t.Helper()
		for _, day := range days {
			wantNoNext(t, week, holidays, day, code)
		}
		for _, c := range stretches {
			wantNoDeliveries(t, week, holidays, c[0], c[1], code)
		}
	}
	for _, week := range slices.Concat(rightWeeks(), wrongWeeks()) {
		for _, holidays := range wrongHolidays() {
			wantBoth(week, holidays, impl.ErrBad)
		}
		for _, holidays := range longHolidays() {
			wantBoth(week, holidays, impl.ErrLong)
		}
	}
	for _, week := range wrongWeeks() {
		for _, holidays := range rightHolidays() {
			wantBoth(week, holidays, impl.ErrBad)
		}
	}
	for _, week := range longWeeks() {
		for _, holidays := range slices.Concat(rightHolidays(), wrongHolidays(), longHolidays()) {
			wantBoth(week, holidays, impl.ErrLong)
		}
	}
}

func TestHolidaysThatAreRightOrWrong(t *testing.T) {
	for _, holidays := range rightHolidays() {
		if calendarCodeByWords(allWeek(), holidays) != impl.OK {
			t.Fatal("these should be right", holidays)
		}
		wantDeliveries(t, allWeek(), holidays, 0, 0, nil, impl.OK)
	}
	for _, holidays := range wrongHolidays() {
		if calendarCodeByWords(allWeek(), holidays) != impl.ErrBad {
			t.Fatal("these should be wrong", holidays)
		}
		wantNoDeliveries(t, allWeek(), holidays, 0, 0, impl.ErrBad)
	}
	for place := range impl.MaxHolidays { // a fault at each place
		for _, day := range []int{math.MinInt, -1, impl.MaxDay + 1, math.MaxInt} {
			holidays := everyWeek(7, impl.MaxHolidays)
			holidays[place] = day
			wantNoNext(t, allWeek(), holidays, 0, impl.ErrBad)
		}
		if place > 0 {
			holidays := everyWeek(7, impl.MaxHolidays)
			holidays[place] = holidays[place-1]
			wantNoNext(t, allWeek(), holidays, 0, impl.ErrBad)
			holidays[place]++
			wantNext(t, allWeek(), holidays, 0, 0, impl.OK)
		}
	}
}

// Every week of 7 flags, each holiday of its first days, from each of these on.
func TestP18EveryWeek(t *testing.T) {
	eachCounts(7, 0, 1, func(flags []int) {
		week := make([]bool, 7)
		for day, flag := range flags {
			week[day] = flag == 1
		}
		for _, holidays := range [][]int{nil, {0}, {4}, {6}, {7}, {3, 4, 5}, {0, 7, 14}, inARow(1, 13)} {
			for day := range 15 {
				wantNextByWords(t, week, holidays, day)
				for _, length := range []int{0, 1, 6, 7, 8, 20} {
					wantDeliveriesByWords(t, week, holidays, day, day+length)
				}
			}
		}
	})
}

func TestP18TheNextDayIsTheFirstOpenOne(t *testing.T) {
	r := fixed()
	found, none, above := 0, 0, 0
	for range 8000 {
		day := someDay(r)
		week, holidays := someWeek(r), someHolidays(r, day)
		wantNextByWords(t, week, holidays, day)
		next, code := impl.NextDay(week, holidays, day)
		if code != impl.OK {
			none++
			continue
		}
		found++
		if next > impl.MaxDay {
			above++
			continue
		}
		wantNext(t, week, holidays, next, next, impl.OK) // it is open itself
		if next > day {
			wantNext(t, week, holidays, next-1, next, impl.OK)
			wantDeliveries(t, week, holidays, day, next, nil, impl.OK) // and none ahead of it is
		}
		if next < impl.MaxDay {
			wantDeliveries(t, week, holidays, day, next+1, []int{next}, impl.OK)
		}
	}
	if found < 4000 || none < 500 || above < 100 {
		t.Error("too few of one kind", found, none, above)
	}
}

func TestP18TwoStretchesAreThoseOfBoth(t *testing.T) {
	r := fixed()
	for range 3000 {
		from := someDay(r)
		to := min(from+r.IntN(impl.MaxSearch+1), impl.MaxDay)
		between := from + r.IntN(to-from+1)
		week, holidays := someWeek(r), someHolidays(r, from)
		wantDeliveriesByWords(t, week, holidays, from, to)
		first, codeFirst := impl.DeliveryDays(week, holidays, from, between)
		second, codeSecond := impl.DeliveryDays(week, holidays, between, to)
		if codeFirst != impl.OK || codeSecond != impl.OK {
			t.Fatal("these should be right", week, holidays, from, between, to)
		}
		wantDeliveries(t, week, holidays, from, to, slices.Concat(first, second), impl.OK)
	}
}

// Going from one open day to the next tells the same as all of a stretch at once.
func TestP18DaysOneByOneAreThoseOfAStretch(t *testing.T) {
	r := fixed()
	for range 500 {
		from := someDay(r)
		to := min(from+r.IntN(impl.MaxSearch+1), impl.MaxDay)
		week, holidays := someWeek(r), someHolidays(r, from)
		var days []int
		for day := from; day < to; day++ {
			next, code := impl.NextDay(week, holidays, day)
			if code != impl.OK || next >= to {
				break
			}
			days = append(days, next)
			day = next
		}
		wantDeliveries(t, week, holidays, from, to, days, impl.OK)
	}
}

// A holiday more takes that day away and no other one.
func TestP18AHolidayClosesItsDayAlone(t *testing.T) {
	for _, week := range rightWeeks() {
		open, _ := impl.DeliveryDays(week, nil, 20, 60)
		for day := range 80 {
			want := slices.DeleteFunc(slices.Clone(open), func(other int) bool { return other == day })
			wantDeliveries(t, week, []int{day}, 20, 60, want, impl.OK)
		}
	}
}

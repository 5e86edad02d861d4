package tests

import (
	"fmt"
	"math"
	"math/rand/v2"
	"slices"
	"testing"

	"loop.example/g00067/impl"
)

func earn(num, until int) impl.PointAct {
	return impl.PointAct{Kind: impl.PaEarn, Num: num, Until: until}
}

func spend(num int) impl.PointAct { return impl.PointAct{Kind: impl.PaSpend, Num: num} }

func dayOn(day int) impl.PointAct { return impl.PointAct{Kind: impl.PaDay, Num: day} }

func back(number int) impl.PointAct { return impl.PointAct{Kind: impl.PaBack, Num: number} }

func lotsOf(pairs ...[2]int) []impl.PointLot {
	var lots []impl.PointLot
	for _, pair := range pairs {
		lots = append(lots, impl.PointLot{Num: pair[0], Until: pair[1]})
	}
	return lots
}

func accountOf(day, spent, expired int, pairs ...[2]int) impl.Account {
	return impl.Account{Day: day, Spent: spent, Expired: expired, Lots: lotsOf(pairs...)}
}

func sameAccount(a, b impl.Account) bool {
	return a.Day == b.Day && a.Spent == b.Spent && a.Expired == b.Expired && slices.Equal(a.Lots, b.Lots)
}

// manyEarns earn one point each; the last lot of them ends first.
func manyEarns(count int) []impl.PointAct {
	var acts []impl.PointAct
	for i := range count {
		acts = append(acts, earn(1, impl.MaxDay-i))
	}
	return acts
}

func codesOf(told []impl.PointObs) []int {
	var codes []int
	for _, o := range told {
		codes = append(codes, o.Code)
	}
	return codes
}

// wantPoints asks what stands behind all acts, and the code of the last one; those ahead of it have none.
func wantPoints(t *testing.T, what string, acts []impl.PointAct, wantCode int, want impl.Account) {
	t.Helper()
	told, got, code := impl.PointsRun(acts)
	wantCodes := append(alike(impl.OK, len(acts)-1), wantCode)
	if code != impl.OK || !slices.Equal(codesOf(told), wantCodes) || !sameAccount(got, want) {
		t.Errorf("%s: PointsRun(%v) = %v, %v, %d; want %v behind the codes %v", what, acts, told, got, code, want, wantCodes)
	}
	wantPointsKept(t, what, acts)
}

// wantPointsKept goes through the acts one more at a time: what was earned is left, spent or expired, an act with a code changes nothing, and what was told of an act does not hang on those behind it.
func wantPointsKept(t *testing.T, what string, acts []impl.PointAct) {
	t.Helper()
	all, _, _ := impl.PointsRun(acts)
	earned, ahead := 0, impl.Account{}
	for i, act := range acts {
		told, now, code := impl.PointsRun(acts[:i+1])
		if code != impl.OK || !slices.Equal(told, all[:i+1]) {
			t.Fatalf("%s: the first %d acts are told as %v, %d; among %v as %v", what, i+1, told, code, acts, all[:i+1])
		}
		if told[i].Code == impl.OK && act.Kind == impl.PaEarn {
			earned += act.Num
		}
		left := 0
		for _, lot := range now.Lots {
			left += lot.Num
			if lot.Num < 1 || lot.Until < now.Day {
				t.Errorf("%s: a lot %v is there behind act %d of %v, on day %d", what, lot, i, acts, now.Day)
			}
		}
		if told[i].Left != left || left+now.Spent+now.Expired != earned || now.Spent < 0 || now.Expired < 0 || len(now.Lots) > impl.MaxLots {
			t.Errorf("%s: %d earned; behind act %d of %v %d are left (told: %d), %d spent, %d expired", what, earned, i, acts, left, told[i].Left, now.Spent, now.Expired)
		}
		if told[i].Code != impl.OK && !sameAccount(now, ahead) {
			t.Errorf("%s: act %d of %v has code %d and makes %v of %v", what, i, acts, told[i].Code, now, ahead)
		}
		ahead = now
	}
}

func TestPointsBounds(t *testing.T) {
	got := []int{impl.PaEarn, impl.PaSpend, impl.PaDay, impl.PaBack, impl.MaxActs, impl.MaxPoints, impl.MaxLots, impl.MaxDay}
	if !slices.Equal(got, []int{1, 2, 3, 4, 200, 1000000, 100, 100000}) {
		t.Error("constants", got)
	}
}

func TestP8AnAccountBeginsEmpty(t *testing.T) {
	told, got, code := impl.PointsRun(nil)
	if code != impl.OK || len(told) != 0 || !sameAccount(got, impl.Account{}) {
		t.Error("PointsRun of no acts", told, got, code)
	}
}

func TestP8ALotIsEarnedBehindTheOthers(t *testing.T) {
	wantPoints(t, "one", []impl.PointAct{earn(50, 20)}, impl.OK, accountOf(0, 0, 0, [2]int{50, 20}))
	wantPoints(t, "by their acts, not their ends", []impl.PointAct{earn(50, 20), earn(30, 10), earn(7, 20), earn(50, 20)}, impl.OK,
		accountOf(0, 0, 0, [2]int{50, 20}, [2]int{30, 10}, [2]int{7, 20}, [2]int{50, 20}))
	told, _, _ := impl.PointsRun([]impl.PointAct{earn(50, 20), earn(30, 10), earn(7, 20)})
	if !slices.Equal(told, []impl.PointObs{{Left: 50}, {Left: 80}, {Left: 87}}) {
		t.Error("what is left behind each", told)
	}
}

func TestP8WhatEndsFirstIsSpentFirst(t *testing.T) {
	three := []impl.PointAct{earn(50, 20), earn(30, 10), earn(40, 30)}
	alikeOnes := []impl.PointAct{earn(5, 9), earn(6, 3), earn(7, 3), earn(8, 3)}
	for _, c := range []struct {
		what string
		acts []impl.PointAct
		want impl.Account
	}{
		{"a part of one", append(three, spend(1)), accountOf(0, 1, 0, [2]int{50, 20}, [2]int{29, 10}, [2]int{40, 30})},
		{"all but one", append(three, spend(29)), accountOf(0, 29, 0, [2]int{50, 20}, [2]int{1, 10}, [2]int{40, 30})},
		{"the whole of one", append(three, spend(30)), accountOf(0, 30, 0, [2]int{50, 20}, [2]int{40, 30})},
		{"one and a part", append(three, spend(31)), accountOf(0, 31, 0, [2]int{49, 20}, [2]int{40, 30})},
		{"two", append(three, spend(80)), accountOf(0, 80, 0, [2]int{40, 30})},
		{"two and a part", append(three, spend(119)), accountOf(0, 119, 0, [2]int{1, 30})},
		{"the last point", append(three, spend(120)), accountOf(0, 120, 0)},
		{"twice", append(three, spend(20), spend(20)), accountOf(0, 40, 0, [2]int{40, 20}, [2]int{40, 30})},
		{"to the last point twice", []impl.PointAct{earn(2, 1), spend(2), earn(3, 1), spend(3)}, accountOf(0, 5, 0)},
		{"of alike ones the first", append(alikeOnes, spend(1)), accountOf(0, 1, 0, [2]int{5, 9}, [2]int{5, 3}, [2]int{7, 3}, [2]int{8, 3})},
		{"of alike ones the next", append(alikeOnes, spend(8)), accountOf(0, 8, 0, [2]int{5, 9}, [2]int{5, 3}, [2]int{8, 3})},
		{"behind alike ones", append(alikeOnes, spend(22)), accountOf(0, 22, 0, [2]int{4, 9})},
		{"with an Until that means nothing", append(three, impl.PointAct{Kind: impl.PaSpend, Num: 1, Until: math.MinInt}), accountOf(0, 1, 0, [2]int{50, 20}, [2]int{29, 10}, [2]int{40, 30})},
	} {
		wantPoints(t, c.what, c.acts, impl.OK, c.want)
	}
}

func TestP8DaysGoOn(t *testing.T) {
	three := []impl.PointAct{earn(50, 20), earn(30, 10), earn(40, 30)}
	for _, c := range []struct {
		what string
		acts []impl.PointAct
		want impl.Account
	}{
		{"the same day", append(three, dayOn(0)), accountOf(0, 0, 0, [2]int{50, 20}, [2]int{30, 10}, [2]int{40, 30})},
		{"the very last day of a lot", append(three, dayOn(10)), accountOf(10, 0, 0, [2]int{50, 20}, [2]int{30, 10}, [2]int{40, 30})},
		{"one behind it", append(three, dayOn(11)), accountOf(11, 0, 30, [2]int{50, 20}, [2]int{40, 30})},
		{"day by day", append(three, dayOn(11), dayOn(20), dayOn(20), dayOn(21)), accountOf(21, 0, 80, [2]int{40, 30})},
		{"all at once", append(three, dayOn(31)), accountOf(31, 0, 120)},
		{"what is left of a lot", append(three, spend(10), dayOn(11)), accountOf(11, 10, 20, [2]int{50, 20}, [2]int{40, 30})},
		{"what was spent is not there", append(three, spend(60), dayOn(21)), accountOf(21, 60, 20, [2]int{40, 30})},
		{"the last day of all", append(three, earn(1, impl.MaxDay), dayOn(impl.MaxDay)), accountOf(impl.MaxDay, 0, 120, [2]int{1, impl.MaxDay})},
		{"with an Until that means nothing", append(three, impl.PointAct{Kind: impl.PaDay, Num: 11, Until: -5}), accountOf(11, 0, 30, [2]int{50, 20}, [2]int{40, 30})},
		{"without a lot", []impl.PointAct{dayOn(7)}, accountOf(7, 0, 0)},
	} {
		wantPoints(t, c.what, c.acts, impl.OK, c.want)
	}
}

func TestP8WhatASpendTookComesBack(t *testing.T) {
	three := []impl.PointAct{earn(50, 20), earn(30, 10), earn(40, 30)}
	for _, c := range []struct {
		what string
		acts []impl.PointAct
		want impl.Account
	}{
		{"of one lot, a part", append(three, spend(12), back(3)), accountOf(0, 0, 0, [2]int{50, 20}, [2]int{18, 10}, [2]int{40, 30}, [2]int{12, 10})},
		{"of one lot, all of it", append(three, spend(30), back(3)), accountOf(0, 0, 0, [2]int{50, 20}, [2]int{40, 30}, [2]int{30, 10})},
		{"of several lots, as they were taken", append(three, spend(100), back(3)), accountOf(0, 0, 0, [2]int{20, 30}, [2]int{30, 10}, [2]int{50, 20}, [2]int{20, 30})},
		{"of alike lots, each of its own", []impl.PointAct{earn(1, 5), earn(2, 5), earn(4, 5), spend(6), back(3)}, accountOf(0, 0, 0, [2]int{1, 5}, [2]int{1, 5}, [2]int{2, 5}, [2]int{3, 5})},
		{"behind what was earned since", append(three, spend(30), earn(5, 1), back(3)), accountOf(0, 0, 0, [2]int{50, 20}, [2]int{40, 30}, [2]int{5, 1}, [2]int{30, 10})},
		{"the first of two", append(three, spend(20), spend(20), back(3)), accountOf(0, 20, 0, [2]int{40, 20}, [2]int{40, 30}, [2]int{20, 10})},
		{"the second of two", append(three, spend(20), spend(20), back(4)), accountOf(0, 20, 0, [2]int{40, 20}, [2]int{40, 30}, [2]int{10, 10}, [2]int{10, 20})},
		{"both, the later one first", append(three, spend(20), spend(20), back(4), back(3)), accountOf(0, 0, 0, [2]int{40, 20}, [2]int{40, 30}, [2]int{10, 10}, [2]int{10, 20}, [2]int{20, 10})},
		{"and is spent anew", append(three, spend(12), back(3), spend(25)), accountOf(0, 25, 0, [2]int{50, 20}, [2]int{40, 30}, [2]int{5, 10})},
		{"and comes back from there", append(three, spend(12), back(3), spend(25), back(5)), accountOf(0, 0, 0, [2]int{50, 20}, [2]int{40, 30}, [2]int{5, 10}, [2]int{18, 10}, [2]int{7, 10})},
		{"of the very first act that can be one", []impl.PointAct{earn(1, 0), spend(1), back(1)}, accountOf(0, 0, 0, [2]int{1, 0})},
		{"with an Until that means nothing", append(three, spend(30), impl.PointAct{Kind: impl.PaBack, Num: 3, Until: math.MaxInt}), accountOf(0, 0, 0, [2]int{50, 20}, [2]int{40, 30}, [2]int{30, 10})},
	} {
		wantPoints(t, c.what, c.acts, impl.OK, c.want)
	}
}

func TestP8WhatComesBackBehindItsTimeExpires(t *testing.T) {
	three := []impl.PointAct{earn(50, 20), earn(30, 10), earn(40, 30)}
	for _, c := range []struct {
		what string
		acts []impl.PointAct
		want impl.Account
	}{
		{"all of one", append(three, spend(12), dayOn(11), back(3)), accountOf(11, 0, 30, [2]int{50, 20}, [2]int{40, 30})},
		{"on the very last day", append(three, spend(12), dayOn(10), back(3)), accountOf(10, 0, 0, [2]int{50, 20}, [2]int{18, 10}, [2]int{40, 30}, [2]int{12, 10})},
		{"some of it", append(three, spend(100), dayOn(11), back(3)), accountOf(11, 0, 30, [2]int{20, 30}, [2]int{50, 20}, [2]int{20, 30})},
		{"some, on the last day of the next", append(three, spend(100), dayOn(20), back(3)), accountOf(20, 0, 30, [2]int{20, 30}, [2]int{50, 20}, [2]int{20, 30})},
		{"more of it", append(three, spend(100), dayOn(21), back(3)), accountOf(21, 0, 80, [2]int{20, 30}, [2]int{20, 30})},
		{"all of several", append(three, spend(100), dayOn(31), back(3)), accountOf(31, 0, 120)},
		{"it goes later", append(three, spend(30), dayOn(10), back(3), dayOn(11)), accountOf(11, 0, 30, [2]int{50, 20}, [2]int{40, 30})},
	} {
		wantPoints(t, c.what, c.acts, impl.OK, c.want)
	}
	all := append(slices.Clone(three), spend(12), dayOn(11), back(3), back(3))
	wantPoints(t, "twice, though nothing was left of it", all, impl.ErrNone, accountOf(11, 0, 30, [2]int{50, 20}, [2]int{40, 30}))
}

func TestP8WhatCanNotComeBack(t *testing.T) {
	start := []impl.PointAct{earn(50, 20), spend(10), earn(30, 30), dayOn(5), spend(5)}
	want := accountOf(5, 15, 0, [2]int{35, 20}, [2]int{30, 30})
	for what, number := range map[string]int{
		"an earn": 0, "another earn": 2, "a day": 3, "the act itself": 5, "one behind": 6, "the one behind it": 7, "none at all": 8, "far behind": impl.MaxActs, "ahead of the first": -1, "the least number": math.MinInt, "the greatest number": math.MaxInt,
	} {
		wantPoints(t, what, append(slices.Clone(start), back(number)), impl.ErrNone, want)
		told, _, _ := impl.PointsRun(append(slices.Clone(start), back(number), spend(1), spend(1)))
		if told[5].Code != impl.ErrNone {
			t.Errorf("%s: %v with spends behind", what, told)
		}
	}
	wantPoints(t, "brought back already", append(slices.Clone(start), back(1), back(1)), impl.ErrNone, accountOf(5, 5, 0, [2]int{35, 20}, [2]int{30, 30}, [2]int{10, 20}))
	wantPoints(t, "brought back a while ago", append(slices.Clone(start), back(1), back(4), spend(3), back(1)), impl.ErrNone, accountOf(5, 3, 0, [2]int{32, 20}, [2]int{30, 30}, [2]int{10, 20}, [2]int{5, 20}))
	wantPoints(t, "a back", append(slices.Clone(start), back(1), back(5)), impl.ErrNone, accountOf(5, 5, 0, [2]int{35, 20}, [2]int{30, 30}, [2]int{10, 20}))
}

func TestP8ASpendWithACodeDoesNotComeBack(t *testing.T) {
	for _, num := range []int{math.MinInt, -1, 0, 6, math.MaxInt} {
		acts := []impl.PointAct{earn(5, 9), spend(num), earn(20, 9), back(1)}
		told, got, code := impl.PointsRun(acts)
		if code != impl.OK || told[1].Code == impl.OK || told[3].Code != impl.ErrNone || !sameAccount(got, accountOf(0, 0, 0, [2]int{5, 9}, [2]int{20, 9})) {
			t.Errorf("back of a spend of %d: %v, %v, %d", num, told, got, code)
		}
		wantPointsKept(t, "a spend with a code", acts)
	}
}

func TestP8NumbersAtTheirEnds(t *testing.T) {
	start, kept := []impl.PointAct{earn(9, 50), dayOn(7)}, [2]int{9, 50}
	for _, c := range []struct {
		act      impl.PointAct
		wantCode int
		want     impl.Account
	}{
		{earn(1, 7), impl.OK, accountOf(7, 0, 0, kept, [2]int{1, 7})},
		{earn(impl.MaxPoints, impl.MaxDay), impl.OK, accountOf(7, 0, 0, kept, [2]int{impl.MaxPoints, impl.MaxDay})},
		{earn(0, 7), impl.ErrRange, accountOf(7, 0, 0, kept)},
		{earn(-1, 7), impl.ErrRange, accountOf(7, 0, 0, kept)},
		{earn(impl.MaxPoints+1, 7), impl.ErrRange, accountOf(7, 0, 0, kept)},
		{earn(1, 6), impl.ErrRange, accountOf(7, 0, 0, kept)},
		{earn(1, 0), impl.ErrRange, accountOf(7, 0, 0, kept)},
		{earn(1, impl.MaxDay+1), impl.ErrRange, accountOf(7, 0, 0, kept)},
		{earn(math.MinInt, 7), impl.ErrRange, accountOf(7, 0, 0, kept)},
		{earn(math.MaxInt, 7), impl.ErrRange, accountOf(7, 0, 0, kept)},
		{earn(1, math.MinInt), impl.ErrRange, accountOf(7, 0, 0, kept)},
		{earn(1, math.MaxInt), impl.ErrRange, accountOf(7, 0, 0, kept)},
		{spend(1), impl.OK, accountOf(7, 1, 0, [2]int{8, 50})},
		{spend(9), impl.OK, accountOf(7, 9, 0)},
		{spend(10), impl.ErrShort, accountOf(7, 0, 0, kept)},
		{spend(math.MaxInt), impl.ErrShort, accountOf(7, 0, 0, kept)},
		{spend(0), impl.ErrRange, accountOf(7, 0, 0, kept)},
		{spend(-1), impl.ErrRange, accountOf(7, 0, 0, kept)},
		{spend(math.MinInt), impl.ErrRange, accountOf(7, 0, 0, kept)},
		{dayOn(7), impl.OK, accountOf(7, 0, 0, kept)},
		{dayOn(impl.MaxDay), impl.OK, accountOf(impl.MaxDay, 0, 9)},
		{dayOn(6), impl.ErrRange, accountOf(7, 0, 0, kept)},
		{dayOn(-1), impl.ErrRange, accountOf(7, 0, 0, kept)},
		{dayOn(impl.MaxDay + 1), impl.ErrRange, accountOf(7, 0, 0, kept)},
		{dayOn(math.MinInt), impl.ErrRange, accountOf(7, 0, 0, kept)},
		{dayOn(math.MaxInt), impl.ErrRange, accountOf(7, 0, 0, kept)},
	} {
		wantPoints(t, fmt.Sprint(c.act), append(slices.Clone(start), c.act), c.wantCode, c.want)
	}
	wantPoints(t, "a day ahead of the first", []impl.PointAct{dayOn(-1)}, impl.ErrRange, impl.Account{})
	wantPoints(t, "an end ahead of the first day", []impl.PointAct{earn(1, -1)}, impl.ErrRange, impl.Account{})
	wantPoints(t, "an end on the first day", []impl.PointAct{earn(1, 0)}, impl.OK, accountOf(0, 0, 0, [2]int{1, 0}))
	wantPoints(t, "nothing to spend", []impl.PointAct{spend(1)}, impl.ErrShort, impl.Account{})
	wantPoints(t, "nothing to spend of nothing", []impl.PointAct{spend(0)}, impl.ErrRange, impl.Account{})
}

func TestP8KindsThatThereAreNot(t *testing.T) {
	for _, kind := range []int{math.MinInt, -1, 0, 5, 9, math.MaxInt} {
		for _, num := range []int{0, 1, -1} {
			wantPoints(t, "no kind", []impl.PointAct{earn(2, 3), {Kind: kind, Num: num, Until: 5}}, impl.ErrKind, accountOf(0, 0, 0, [2]int{2, 3}))
			told, _, _ := impl.PointsRun([]impl.PointAct{earn(2, 3), {Kind: kind, Num: num}, back(1)})
			if told[2].Code != impl.ErrNone {
				t.Errorf("back of an act of kind %d: %v", kind, told)
			}
		}
	}
}

func TestP8RoomForLots(t *testing.T) {
	full := manyEarns(impl.MaxLots)
	_, want, _ := impl.PointsRun(full)
	if len(want.Lots) != impl.MaxLots {
		t.Fatal("MaxLots lots have no room", want)
	}
	wantPoints(t, "MaxLots lots", full, impl.OK, want)
	wantPoints(t, "one more", append(slices.Clone(full), earn(1, 5)), impl.ErrFull, want)
	wantPoints(t, "one more that is wrong", append(slices.Clone(full), earn(0, 5)), impl.ErrRange, want)
	last := want.Lots[impl.MaxLots-1]
	without := impl.Account{Spent: 1, Lots: append(slices.Clone(want.Lots[:impl.MaxLots-1]), impl.PointLot{Num: 4, Until: 5})}
	wantPoints(t, "one in the place of one that is spent", append(slices.Clone(full), spend(1), earn(4, 5)), impl.OK, without)
	wantPoints(t, "what comes back has no room then", append(slices.Clone(full), spend(1), earn(4, 5), back(impl.MaxLots)), impl.ErrFull, without)
	wantPoints(t, "what comes back has the place where it was", append(slices.Clone(full), spend(1), back(impl.MaxLots)), impl.OK, want)
	day := impl.Account{Day: last.Until + 1, Expired: 1, Lots: append(slices.Clone(want.Lots[:impl.MaxLots-1]), impl.PointLot{Num: 4, Until: impl.MaxDay})}
	wantPoints(t, "one in the place of one that expired", append(slices.Clone(full), dayOn(last.Until+1), earn(4, impl.MaxDay)), impl.OK, day)
}

// fullBehindASpend has a spend of two lots (1 of day 5, 2 of day 6) as act 3, and so many lots behind it, of day 9.
func fullBehindASpend(lots int) []impl.PointAct {
	acts := []impl.PointAct{earn(1, 5), earn(2, 6), earn(3, 9), spend(3)}
	for range lots - 1 {
		acts = append(acts, earn(1, 9))
	}
	return acts
}

func TestP8RoomForWhatComesBack(t *testing.T) {
	lots := func(count int, more ...[2]int) []impl.PointLot {
		return append(append(lotsOf([2]int{3, 9}), slices.Repeat(lotsOf([2]int{1, 9}), count-1)...), lotsOf(more...)...)
	}
	for _, c := range []struct {
		what     string
		lots     int
		day      int
		wantCode int
		want     impl.Account
	}{
		{"room for two", impl.MaxLots - 2, 0, impl.OK, impl.Account{Lots: lots(impl.MaxLots-2, [2]int{1, 5}, [2]int{2, 6})}},
		{"room for one of two", impl.MaxLots - 1, 0, impl.ErrFull, impl.Account{Spent: 3, Lots: lots(impl.MaxLots - 1)}},
		{"no room for two", impl.MaxLots, 5, impl.ErrFull, impl.Account{Day: 5, Spent: 3, Lots: lots(impl.MaxLots)}},
		{"room for one, on the last day of the other", impl.MaxLots - 1, 5, impl.ErrFull, impl.Account{Day: 5, Spent: 3, Lots: lots(impl.MaxLots - 1)}},
		{"room for one, as the other expires", impl.MaxLots - 1, 6, impl.OK, impl.Account{Day: 6, Expired: 1, Lots: lots(impl.MaxLots-1, [2]int{2, 6})}},
		{"no room for one, as the other expires", impl.MaxLots, 6, impl.ErrFull, impl.Account{Day: 6, Spent: 3, Lots: lots(impl.MaxLots)}},
		{"no room is needed, as both expire", impl.MaxLots, 7, impl.OK, impl.Account{Day: 7, Expired: 3, Lots: lots(impl.MaxLots)}},
	} {
		wantPoints(t, c.what, append(fullBehindASpend(c.lots), dayOn(c.day), back(3)), c.wantCode, c.want)
	}
}

func TestP8WhatHadNoRoomComesBackLater(t *testing.T) {
	acts := append(fullBehindASpend(impl.MaxLots), back(3), spend(5), back(3))
	told, got, code := impl.PointsRun(acts)
	count := len(acts)
	if code != impl.OK || told[count-3].Code != impl.ErrFull || told[count-2].Code != impl.OK || told[count-1].Code != impl.OK {
		t.Fatal("codes", told[count-3:], code)
	}
	want := impl.Account{Spent: 5, Lots: append(slices.Repeat(lotsOf([2]int{1, 9}), impl.MaxLots-3), lotsOf([2]int{1, 5}, [2]int{2, 6})...)}
	if !sameAccount(got, want) {
		t.Error("account", got, "want", want)
	}
	wantPointsKept(t, "later", acts)
}

func TestP8ManyActs(t *testing.T) {
	acts := slices.Repeat([]impl.PointAct{earn(impl.MaxPoints, 3), spend(impl.MaxPoints)}, impl.MaxActs/2)
	wantPoints(t, "MaxActs acts", acts, impl.OK, accountOf(0, impl.MaxActs/2*impl.MaxPoints, 0))
	for count, want := range map[int]int{impl.MaxActs: impl.OK, impl.MaxActs + 1: impl.ErrMany, impl.MaxList: impl.ErrMany, impl.MaxList + 1: impl.ErrLong, 3 * impl.MaxList: impl.ErrLong} {
		for _, act := range []impl.PointAct{{}, earn(1, 1), dayOn(3)} {
			told, got, code := impl.PointsRun(slices.Repeat([]impl.PointAct{act}, count))
			if code != want || code == impl.OK && len(told) != count || code != impl.OK && (len(told) != 0 || !sameAccount(got, impl.Account{})) {
				t.Errorf("%d acts: %d told, %v, %d; want code %d", count, len(told), got, code, want)
			}
		}
	}
}

// point is one single point, with the number of its lot.
type point struct{ lot, until int }

// pointsByWords goes point by point, by the words of the document alone; the points of a lot stand side by side.
type pointsByWords struct {
	day, spent, expired, lots int
	there                     []point
	took                      map[int][]point
}

func (p *pointsByWords) countLots() int {
	count := 0
	for i := range p.there {
		if i == 0 || p.there[i].lot != p.there[i-1].lot {
			count++
		}
	}
	return count
}

func (p *pointsByWords) takeOne() point {
	least := math.MaxInt
	for _, one := range p.there {
		least = min(least, one.until)
	}
	i := slices.IndexFunc(p.there, func(one point) bool { return one.until == least })
	one := p.there[i]
	p.there = slices.Delete(p.there, i, i+1)
	return one
}

func (p *pointsByWords) back(number int) int {
	took := p.took[number]
	if len(took) == 0 {
		return impl.ErrNone
	}
	tried, expired := *p, 0
	tried.there = slices.Clone(p.there)
	for i, one := range took {
		if i == 0 || took[i-1].lot != one.lot {
			tried.lots++
		}
		if one.until < p.day {
			expired++
			continue
		}
		tried.there = append(tried.there, point{lot: tried.lots, until: one.until})
	}
	if tried.countLots() > impl.MaxLots {
		return impl.ErrFull
	}
	tried.spent, tried.expired = p.spent-len(took), p.expired+expired
	delete(p.took, number)
	*p = tried
	return impl.OK
}

func (p *pointsByWords) do(number int, act impl.PointAct) int {
	switch act.Kind {
	case impl.PaEarn:
		if act.Num < 1 || act.Num > 1000000 || act.Until < p.day || act.Until > 100000 {
			return impl.ErrRange
		}
		if p.countLots() == 100 {
			return impl.ErrFull
		}
		p.lots++
		p.there = append(p.there, slices.Repeat([]point{{lot: p.lots, until: act.Until}}, act.Num)...)
	case impl.PaSpend:
		if act.Num < 1 {
			return impl.ErrRange
		}
		if act.Num > len(p.there) {
			return impl.ErrShort
		}
		for range act.Num {
			p.took[number] = append(p.took[number], p.takeOne())
		}
		p.spent += act.Num
	case impl.PaDay:
		if act.Num < p.day || act.Num > 100000 {
			return impl.ErrRange
		}
		p.day = act.Num
		before := len(p.there)
		p.there = slices.DeleteFunc(p.there, func(one point) bool { return one.until < p.day })
		p.expired += before - len(p.there)
	case impl.PaBack:
		return p.back(act.Num)
	default:
		return impl.ErrKind
	}
	return impl.OK
}

func (p *pointsByWords) account() impl.Account {
	a := impl.Account{Day: p.day, Spent: p.spent, Expired: p.expired}
	for i, one := range p.there {
		if i == 0 || p.there[i-1].lot != one.lot {
			a.Lots = append(a.Lots, impl.PointLot{Until: one.until})
		}
		a.Lots[len(a.Lots)-1].Num++
	}
	return a
}

func runByWords(acts []impl.PointAct) ([]impl.PointObs, impl.Account) {
	p := pointsByWords{took: map[int][]point{}}
	var told []impl.PointObs
	for number, act := range acts {
		code := p.do(number, act)
		told = append(told, impl.PointObs{Code: code, Left: len(p.there)})
	}
	return told, p.account()
}

// aSpend draws a number of an act that can come back, or any other.
func aSpend(r *rand.Rand, acts []impl.PointAct) int {
	number := r.IntN(len(acts)+2) - 1
	for range 3 {
		if number < 0 || number >= len(acts) || acts[number].Kind != impl.PaSpend {
			number = r.IntN(len(acts)+2) - 1
		}
	}
	return number
}

// someActs draws kinds by their weights; small numbers, so that most acts have no code and many lots are alike. So many of its acts earn lots first.
func someActs(r *rand.Rand, count, lots, points, days int, weights ...int) []impl.PointAct {
	var kinds []int
	for kind, weight := range weights {
		kinds = append(kinds, alike(kind, weight)...)
	}
	var acts []impl.PointAct
	day := 0
	for range lots {
		acts = append(acts, earn(1+r.IntN(points), r.IntN(days)))
	}
	for len(acts) < count {
		act := impl.PointAct{Kind: kinds[r.IntN(len(kinds))]}
		switch act.Kind {
		case impl.PaEarn:
			act.Num, act.Until = r.IntN(points), day+r.IntN(days)
		case impl.PaSpend:
			act.Num = r.IntN(2 * points)
		case impl.PaDay:
			act.Num = day + r.IntN(3) - r.IntN(2)
			day = max(day, act.Num)
		default:
			act.Num = aSpend(r, acts)
		}
		acts = append(acts, act)
	}
	return acts
}

func TestP8LikePointByPoint(t *testing.T) {
	r := fixed()
	codes := map[int]int{}
	for round := range 600 {
		weights := [][]int{{1, 30, 10, 5, 20}, {0, 50, 3, 1, 10}, {0, 10, 10, 3, 10}, {0, 40, 10, 0, 30}}[round%4]
		acts := someActs(r, r.IntN(impl.MaxActs+1), round%7*16, 2+r.IntN(6), 1+r.IntN(12), weights...)
		told, got, code := impl.PointsRun(acts)
		wantTold, want := runByWords(acts)
		if code != impl.OK || !slices.Equal(told, wantTold) || !sameAccount(got, want) {
			t.Fatalf("PointsRun(%v) = %v, %v, %d; want %v, %v", acts, told, got, code, wantTold, want)
		}
		for i, o := range told {
			if acts[i].Kind == impl.PaBack {
				codes[100+o.Code]++
			}
			codes[o.Code]++
		}
	}
	for _, code := range []int{impl.OK, impl.ErrRange, impl.ErrKind, impl.ErrShort, impl.ErrNone, impl.ErrFull, 100, 100 + impl.ErrNone, 100 + impl.ErrFull} {
		if codes[code] == 0 {
			t.Error("no act drawn has the code", code, codes)
		}
	}
}

func TestP8WhatWasEarnedIsThereSpentOrExpired(t *testing.T) {
	r := fixed()
	for range 60 {
		wantPointsKept(t, "drawn", someActs(r, impl.MaxActs, r.IntN(impl.MaxLots), impl.MaxPoints, 20, 1, 30, 10, 5, 20))
	}
}

// Acts with a code may as well not be there, but for the numbers of those behind them: an act of no kind stands in their place.
func TestP8AnActWithACodeChangesNothing(t *testing.T) {
	r := fixed()
	for range 100 {
		acts := someActs(r, impl.MaxActs, r.IntN(impl.MaxLots), 6, 8, 1, 40, 10, 3, 20)
		told, got, _ := impl.PointsRun(acts)
		for i, o := range told {
			if o.Code != impl.OK {
				acts[i] = impl.PointAct{}
			}
		}
		again, same, code := impl.PointsRun(acts)
		if code != impl.OK || !sameAccount(got, same) {
			t.Errorf("%v without the acts that had a code: %v; with them: %v", acts, same, got)
		}
		for i := range again {
			if again[i].Left != told[i].Left {
				t.Errorf("act %d of %v: %d left, not %d", i, acts, again[i].Left, told[i].Left)
			}
		}
	}
}

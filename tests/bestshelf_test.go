package tests

import (
	"fmt"
	"math/rand/v2"
	"slices"
	"testing"

	"loop.example/g00067/impl"
)

// planAhead: more Gain, or as much with the greater list.
func planAhead(a, b impl.ShelfPlan) bool {
	if a.Gain != b.Gain {
		return a.Gain > b.Gain
	}
	return slices.Compare(a.Counts, b.Counts) > 0
}

// bestByAllCounts goes through all counts, those that do not fit or have no room among them.
func bestByAllCounts(list []impl.Facing, width int) (impl.ShelfPlan, int) {
	var best impl.ShelfPlan
	found := false
	eachCounts(len(list), 0, slices.Max(append(fullOf(list), 0)), func(counts []int) {
		plan, code := shelfByWords(list, width, counts)
		if code == impl.OK && (!found || planAhead(plan, best)) {
			best, found = plan, true
		}
	})
	if !found {
		return impl.ShelfPlan{}, impl.ErrNone
	}
	return best, impl.OK
}

// bestByUsed keeps, of the plans of the first facings, for each width that is just used the one ahead of the others.
func bestByUsed(list []impl.Facing, width int) (impl.ShelfPlan, int) {
	plans := map[int]impl.ShelfPlan{0: {}}
	for _, f := range list {
		next := map[int]impl.ShelfPlan{}
		for _, plan := range plans {
			for count := f.Least; count <= len(f.Gains); count++ {
				longer := impl.ShelfPlan{Counts: append(slices.Clone(plan.Counts), count), Used: plan.Used + count*f.Width, Gain: plan.Gain}
				for _, gain := range f.Gains[:count] {
					longer.Gain += gain
				}
				if old, there := next[longer.Used]; longer.Used <= width && (!there || planAhead(longer, old)) {
					next[longer.Used] = longer
				}
			}
		}
		plans = next
	}
	var best impl.ShelfPlan
	found := false
	for _, plan := range plans {
		if !found || planAhead(plan, best) {
			best, found = plan, true
		}
	}
	if !found {
		return impl.ShelfPlan{}, impl.ErrNone
	}
	return best, impl.OK
}

func wantPlan(t *testing.T, what string, list []impl.Facing, width int, want impl.ShelfPlan, wantCode int) {
	t.Helper()
	got, code := impl.BestShelf(list, width)
	if code != wantCode || !samePlan(got, want) {
		t.Errorf("%s: BestShelf(%.300v, %d) = %v, %d; want %v, %d", what, list, width, got, code, want, wantCode)
	}
	if code != impl.OK {
		return
	}
	if plan, code := impl.ShelfOf(list, width, got.Counts); code != impl.OK || !samePlan(plan, got) {
		t.Errorf("%s: BestShelf(%v, %d) = %v, of which ShelfOf tells %v, %d", what, list, width, got, plan, code)
	}
}

func wantNoPlan(t *testing.T, what string, list []impl.Facing, width, code int) {
	t.Helper()
	wantPlan(t, what, list, width, impl.ShelfPlan{}, code)
}

func wantBestShelf(t *testing.T, what string, list []impl.Facing, width int, counts []int) {
	t.Helper()
	want, code := shelfByWords(list, width, counts)
	if code != impl.OK {
		t.Fatalf("%s: %v are no counts of %v", what, counts, list)
	}
	wantPlan(t, what, list, width, want, impl.OK)
	if words, _ := bestByUsed(list, width); !samePlan(words, want) {
		t.Errorf("%s: all plans tell %v", what, words)
	}
}

func TestP14BestByHand(t *testing.T) {
	tea := teaShelf()
	narrow := facingsOf(facing("a", 6, 0, 60), facing("b", 5, 0, 49), facing("c", 5, 0, 49))
	for _, c := range []struct {
		what   string
		list   []impl.Facing
		width  int
		counts []int
	}{
		{"the Least alone", tea, 44, []int{1, 0, 0, 2}},
		{"a room that is too small for one more", tea, 50, []int{1, 0, 0, 2}},
		{"gains that rise are waited for", tea, 58, []int{1, 0, 0, 4}},
		{"a better one than the first", tea, 78, []int{1, 1, 0, 4}},
		{"all", tea, 208, []int{3, 2, 1, 4}},
		{"all but the last of one", tea, 207, []int{2, 2, 1, 4}},
		{"the most gain for its width is not the best", narrow, 10, []int{0, 1, 1}},
		{"the most gain for its width is the best", narrow, 9, []int{1, 0, 0}},
		{"the most gain for its width is among the best", narrow, 11, []int{1, 1, 0}},
		{"the wider one and nothing else", facingsOf(facing("a", 3, 0, 30), facing("b", 10, 0, 31)), 10, []int{0, 1}},
		{"the wider one on one more", facingsOf(facing("a", 3, 0, 30), facing("b", 10, 0, 31)), 13, []int{1, 1}},
		{"gains that come late", facingsOf(facing("a", 1, 0, 1, 1, 1, 1, 1), facing("b", 1, 0, 0, 0, 0, 0, 6)), 5, []int{0, 5}},
		{"gains that come too late", facingsOf(facing("a", 1, 0, 1, 1, 1, 1, 1), facing("b", 1, 0, 0, 0, 0, 0, 6)), 4, []int{4, 0}},
		{"gains that come early", facingsOf(facing("a", 1, 0, 2, 2, 2), facing("b", 1, 0, 9, 0, 0)), 3, []int{2, 1}},
		{"what must be there costs the best", facingsOf(facing("dull", 4, 2, 0, 1, 0), facing("best", 3, 0, 50, 50)), 11, []int{2, 1}},
		{"and the best alone", facingsOf(facing("dull", 4, 0, 0, 1, 0), facing("best", 3, 0, 50, 50)), 11, []int{1, 2}},
		{"what must be there is all there is", facingsOf(facing("dull", 4, 3, 0, 1, 0), facing("best", 3, 0, 50, 50)), 12, []int{3, 0}},
	} {
		wantBestShelf(t, c.what, c.list, c.width, c.counts)
	}
}

func TestP14OfSeveralPlansTheGreatestList(t *testing.T) {
	for _, c := range []struct {
		what   string
		list   []impl.Facing
		width  int
		counts []int
	}{
		{"one of two that are alike", manyFacings(2, 5, 0, 9), 5, []int{1, 0}},
		{"some of many that are alike", manyFacings(5, 5, 0, 9, 9), 25, []int{2, 2, 1, 0, 0}},
		{"one of each gains more than two of the first", manyFacings(5, 5, 0, 9, 8), 25, []int{1, 1, 1, 1, 1}},
		{"one of each, then two of the first", manyFacings(5, 5, 0, 9, 8), 30, []int{2, 1, 1, 1, 1}},
		{"the wider first", facingsOf(facing("a", 4, 0, 10), facing("b", 2, 0, 5, 5)), 4, []int{1, 0}},
		{"the wider last", facingsOf(facing("b", 2, 0, 5, 5), facing("a", 4, 0, 10)), 4, []int{2, 0}},
		{"the greatest list uses more", facingsOf(facing("a", 9, 0, 10), facing("b", 1, 0, 10)), 9, []int{1, 0}},
		{"the greatest list uses less", facingsOf(facing("a", 1, 0, 10), facing("b", 9, 0, 10)), 9, []int{1, 0}},
		{"more of the first, not more in all", facingsOf(facing("a", 5, 0, 4, 6), facing("b", 3, 0, 5, 2, 3)), 10, []int{2, 0}},
		{"as many of the first, more of the second", facingsOf(facing("a", 2, 1, 3), facing("b", 2, 0, 4), facing("c", 2, 0, 4), facing("d", 1, 0, 2, 2)), 6, []int{1, 1, 1, 0}},
		{"the third decides", facingsOf(facing("a", 2, 1, 3), facing("b", 2, 0, 1), facing("c", 2, 0, 4), facing("d", 1, 0, 2, 2)), 4, []int{1, 0, 1, 0}},
		{"what gains nothing is taken where there is room", facingsOf(facing("a", 3, 0, 0, 0), facing("b", 4, 0, 7)), 11, []int{2, 1}},
		{"and left where there is none", facingsOf(facing("a", 3, 0, 0, 0), facing("b", 4, 0, 7)), 9, []int{1, 1}},
		{"and never instead of a gain", facingsOf(facing("a", 3, 0, 0, 0), facing("b", 4, 0, 7)), 6, []int{0, 1}},
		{"nothing gains anything", manyFacings(3, 2, 0, 0, 0, 0), 9, []int{3, 1, 0}},
		{"nothing gains anything, and some must be there", facingsOf(facing("a", 2, 0, 0, 0, 0), facing("b", 2, 1, 0, 0), facing("c", 3, 1, 0)), 9, []int{2, 1, 1}},
		{"noughts behind a gain", facingsOf(facing("a", 2, 0, 5, 0, 0), facing("b", 2, 0, 1)), 6, []int{2, 1}},
		{"noughts behind a gain use all", facingsOf(facing("a", 2, 0, 5, 0, 0), facing("b", 2, 0, 0)), 6, []int{3, 0}},
	} {
		wantBestShelf(t, c.what, c.list, c.width, c.counts)
	}
}

func TestP14BestShelfEdges(t *testing.T) {
	for _, width := range []int{0, 1, impl.MaxWidth} {
		wantPlan(t, "no facing at all", nil, width, impl.ShelfPlan{}, impl.OK)
		wantPlan(t, "no facing at all", []impl.Facing{}, width, impl.ShelfPlan{}, impl.OK)
	}
	wantBestShelf(t, "no room at all", manyFacings(impl.MaxShelf, 1, 0, 5), 0, alike(0, impl.MaxShelf))
	wantBestShelf(t, "room for one", manyFacings(impl.MaxShelf, 1, 0, 5), 1, append([]int{1}, alike(0, impl.MaxShelf-1)...))
	wantBestShelf(t, "room for all but one", manyFacings(impl.MaxShelf, 1, 0, 5), impl.MaxShelf-1, append(alike(1, impl.MaxShelf-1), 0))
	widest := facingsOf(facing("a", impl.MaxWidth, 0, impl.MaxGain, 1))
	wantBestShelf(t, "the widest", widest, impl.MaxWidth, []int{1})
	wantBestShelf(t, "the widest on one less", widest, impl.MaxWidth-1, []int{0})
	widest[0].Least = 1
	wantBestShelf(t, "the widest that must be there", widest, impl.MaxWidth, []int{1})
	wantNoPlan(t, "the widest that must be there, on one less", widest, impl.MaxWidth-1, impl.ErrNone)
	widest[0].Least = 2
	wantNoPlan(t, "the widest twice", widest, impl.MaxWidth, impl.ErrNone)
	all := manyFacings(impl.MaxShelf, 27, 0, alike(impl.MaxGain, impl.MaxFacings)...)
	wantPlan(t, "all there can be", all, 1944, impl.ShelfPlan{Counts: alike(6, impl.MaxShelf), Used: 1944, Gain: 7200000}, impl.OK)
	wantBestShelf(t, "all there can be, and more room", all, impl.MaxWidth, alike(6, impl.MaxShelf))
	wantBestShelf(t, "all but one", all, 1943, append(alike(6, impl.MaxShelf-1), 5))
	wantBestShelf(t, "a shelf that is filled to the last", manyFacings(10, 100, 2, 1, 1, 5), 2000, alike(2, 10))
	wantBestShelf(t, "a facing of width 1 with all its Gains at nought", facingsOf(facing("a", 1, 0, alike(0, impl.MaxFacings)...)), impl.MaxWidth, []int{6})
	wantBestShelf(t, "the most beside the least gain", facingsOf(facing("a", 1, 0, 1), facing("b", 1, 0, impl.MaxGain)), 1, []int{0, 1})
}

func TestP14WhatMustBeThereHasNoRoom(t *testing.T) {
	tea := teaShelf()
	for width := range 44 {
		wantNoPlan(t, "the Least of all", tea, width, impl.ErrNone)
	}
	wantNoPlan(t, "the Least of one", facingsOf(facing("a", 30, 1, 9)), 29, impl.ErrNone)
	wantNoPlan(t, "the Least of one on no room", facingsOf(facing("a", 1, 1, 9)), 0, impl.ErrNone)
	wantNoPlan(t, "the Least of the last", facingsOf(facing("a", 1, 0, 9, 9, 9), facing("b", 10, 2, 0, 0)), 19, impl.ErrNone)
	wantBestShelf(t, "the Least of the last on one more", facingsOf(facing("a", 1, 0, 9, 9, 9), facing("b", 10, 2, 0, 0)), 20, []int{0, 2})
	wantNoPlan(t, "the Least of the first", facingsOf(facing("b", 10, 2, 0, 0), facing("a", 1, 0, 9, 9, 9)), 19, impl.ErrNone)
	wantBestShelf(t, "the Least of the first on one more", facingsOf(facing("b", 10, 2, 0, 0), facing("a", 1, 0, 9, 9, 9)), 21, []int{2, 1})
	wantNoPlan(t, "the Least of each", manyFacings(10, 100, 2, 1, 1, 5), 1999, impl.ErrNone)
	wantNoPlan(t, "the most that can be asked", manyFacings(impl.MaxShelf, impl.MaxWidth, 6, alike(impl.MaxGain, 6)...), impl.MaxWidth, impl.ErrNone)
	for place := range impl.MaxShelf {
		list := manyFacings(impl.MaxShelf, 3, 0, 4)
		list[place] = facing("must", 50, 1, 0)
		wantNoPlan(t, fmt.Sprint("what must be there, at ", place), list, 49, impl.ErrNone)
		counts := alike(0, impl.MaxShelf)
		counts[place] = 1
		wantBestShelf(t, fmt.Sprint("what must be there, at ", place), list, 50, counts)
	}
}

func TestBestShelfWhichFaultComesFirst(t *testing.T) {
	wrong, right := facingsOf(facing("a", 3, 1, 9), facing("a", 3, 1, 9)), facingsOf(facing("a", 3, 1, 9), facing("b", 3, 1, 9))
	wantNoPlan(t, "too long ahead of a width", make([]impl.Facing, impl.MaxList+1), -1, impl.ErrLong)
	wantNoPlan(t, "facings ahead of a width", wrong, -1, impl.ErrBad)
	wantNoPlan(t, "facings ahead of their room", wrong, 0, impl.ErrBad)
	wantNoPlan(t, "a list at the limit", make([]impl.Facing, impl.MaxList), impl.MaxWidth+1, impl.ErrBad)
	wantNoPlan(t, "a width below 0 has no room either", right, -1, impl.ErrRange)
	wantNoPlan(t, "no room", right, 5, impl.ErrNone)
	wantBestShelf(t, "no fault at all", right, 6, []int{1, 1})
}

// someFacings have gains that rise, fall, are nought or are alike, drawn from few numbers, so that many plans gain the same.
func someFacings(r *rand.Rand, count, mostWidth, mostGains, mostGain int) []impl.Facing {
	list := manyFacings(count, 1, 0)
	for place := range list {
		f := &list[place]
		f.Width = 1 + r.IntN(mostWidth)
		for range 1 + r.IntN(mostGains) {
			f.Gains = append(f.Gains, r.IntN(mostGain+1))
		}
		switch r.IntN(4) {
		case 0:
			slices.Sort(f.Gains)
		case 1:
			slices.Sort(f.Gains)
			slices.Reverse(f.Gains)
		case 2:
			f.Least = r.IntN(len(f.Gains) + 1)
		}
	}
	return list
}

func TestP14NoWayToFillASmallShelfGainsMore(t *testing.T) {
	r := fixed()
	made, not := 0, 0
	for range 4000 {
		list := someFacings(r, r.IntN(5), []int{3, 9}[r.IntN(2)], 4, []int{1, 3, 20}[r.IntN(3)])
		width := r.IntN(40)
		want, code := bestByAllCounts(list, width)
		wantPlan(t, "all counts", list, width, want, code)
		if code == impl.OK {
			made++
		} else {
			not++
		}
	}
	if made < 500 || not < 200 {
		t.Error("too few draws of one kind", made, not)
	}
}

func TestP14EveryShelfOfTwoFacings(t *testing.T) {
	var each []impl.Facing
	for width := 1; width <= 3; width++ {
		for _, gains := range [][]int{{0}, {1}, {2}, {0, 1}, {1, 1}, {2, 0}, {1, 2}} {
			for least := range len(gains) + 1 {
				each = append(each, facing("a", width, least, gains...))
			}
		}
	}
	for _, a := range each {
		for _, b := range each {
			b.Name = "b"
			for width := range 8 {
				list := facingsOf(a, b)
				want, code := bestByAllCounts(list, width)
				wantPlan(t, "two facings", list, width, want, code)
			}
		}
	}
}

func TestP14NoWayToFillALongShelfGainsMore(t *testing.T) {
	r := fixed()
	for range 60 {
		list := someFacings(r, 1+r.IntN(impl.MaxShelf), []int{5, 60, 300}[r.IntN(3)], impl.MaxFacings, []int{2, 50, impl.MaxGain}[r.IntN(3)])
		width := r.IntN(impl.MaxWidth + 1)
		want, code := bestByUsed(list, width)
		wantPlan(t, "all that is just used", list, width, want, code)
	}
	for range 6 {
		list := someFacings(r, impl.MaxShelf, 90, impl.MaxFacings, impl.MaxGain)
		want, code := bestByUsed(list, impl.MaxWidth)
		wantPlan(t, "the widest shelf", list, impl.MaxWidth, want, code)
	}
}

func TestP14MoreRoomNeverGainsLess(t *testing.T) {
	r := fixed()
	for range 20 {
		list := someFacings(r, impl.MaxShelf, 12, impl.MaxFacings, 90)
		ahead := impl.ShelfPlan{}
		there := false
		for width := range 400 {
			plan, code := impl.BestShelf(list, width)
			if code == impl.ErrNone && !there {
				continue
			}
			if code != impl.OK || plan.Gain < ahead.Gain || plan.Used > width || plan.Gain == ahead.Gain && there && slices.Compare(plan.Counts, ahead.Counts) < 0 {
				t.Fatalf("BestShelf(%v, %d) = %v, %d; on one less %v", list, width, plan, code, ahead)
			}
			ahead, there = plan, true
		}
	}
}

func TestP14TheOrderOfFacingsDoesNotChangeTheGain(t *testing.T) {
	r := fixed()
	for range 60 {
		list := someFacings(r, impl.MaxShelf, 40, impl.MaxFacings, 30)
		plan, code := impl.BestShelf(list, 500)
		for range 4 {
			r.Shuffle(len(list), func(i, j int) { list[i], list[j] = list[j], list[i] })
			other, codeOther := impl.BestShelf(list, 500)
			if code != codeOther || plan.Gain != other.Gain {
				t.Errorf("BestShelf of %v: %v, %d and in another order %v, %d", list, plan, code, other, codeOther)
			}
		}
	}
}

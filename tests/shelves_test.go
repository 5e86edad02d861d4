package tests

import (
	"fmt"
	"math"
	"slices"
	"strings"
	"testing"

	"loop.example/g00067/impl"
)

func facing(name string, width, least int, gains ...int) impl.Facing {
	return impl.Facing{Name: name, Width: width, Least: least, Gains: gains}
}

func facingsOf(list ...impl.Facing) []impl.Facing { return list }

// manyFacings differ in their names alone.
func manyFacings(count, width, least int, gains ...int) []impl.Facing {
	var list []impl.Facing
	for _, name := range someNames(count) {
		list = append(list, facing(name, width, least, slices.Clone(gains)...))
	}
	return list
}

// teaShelf has facings of which one must be there, gains that fall, are alike and rise.
func teaShelf() []impl.Facing {
	return facingsOf(facing("tea", 30, 1, 10, 9, 1), facing("rum", 20, 0, 8, 8), facing("käse", 50, 0, 17), facing("_9", 7, 2, 0, 1, 5, 30))
}

func samePlan(a, b impl.ShelfPlan) bool {
	return slices.Equal(a.Counts, b.Counts) && a.Used == b.Used && a.Gain == b.Gain
}

// shelfByWords lays the facings down one by one; the list is right.
func shelfByWords(list []impl.Facing, width int, counts []int) (impl.ShelfPlan, int) {
	if width < 0 || width > 2000 {
		return impl.ShelfPlan{}, impl.ErrRange
	}
	if len(counts) != len(list) {
		return impl.ShelfPlan{}, impl.ErrForm
	}
	for place, count := range counts {
		if count < list[place].Least || count > len(list[place].Gains) {
			return impl.ShelfPlan{}, impl.ErrForm
		}
	}
	plan := impl.ShelfPlan{Counts: slices.Clone(counts)}
	for place, count := range counts {
		for n := range count {
			plan.Used += list[place].Width
			plan.Gain += list[place].Gains[n]
		}
	}
	if plan.Used > width {
		return impl.ShelfPlan{}, impl.ErrFull
	}
	return plan, impl.OK
}

func wantShelf(t *testing.T, what string, list []impl.Facing, width int, counts []int, want impl.ShelfPlan, wantCode int) {
	t.Helper()
	got, code := impl.ShelfOf(list, width, counts)
	if code != wantCode || !samePlan(got, want) {
		t.Errorf("%s: ShelfOf(%.300v, %d, %.300v) = %v, %d; want %v, %d", what, list, width, counts, got, code, want, wantCode)
	}
}

func wantNoShelf(t *testing.T, what string, list []impl.Facing, width int, counts []int, code int) {
	t.Helper()
	wantShelf(t, what, list, width, counts, impl.ShelfPlan{}, code)
}

func TestShelvesBounds(t *testing.T) {
	got := []int{impl.MaxShelf, impl.MaxFacings, impl.MaxWidth, impl.MaxGain}
	if !slices.Equal(got, []int{12, 6, 2000, 100000}) {
		t.Error("constants", got)
	}
}

func rightFacings() [][]impl.Facing {
	lists := [][]impl.Facing{
		nil, {}, teaShelf(), manyFacings(impl.MaxShelf, 1, 0, 5), manyFacings(impl.MaxShelf, impl.MaxWidth, 6, alike(impl.MaxGain, impl.MaxFacings)...), manyFacings(impl.MaxShelf-1, 7, 2, 0, 0),
		facingsOf(facing("a", 1, 0, 5), facing("A", 1, 0, 5), facing("a_", 1, 0, 5), facing("aa", 1, 0, 5)), facingsOf(facing(strings.Repeat("n", impl.MaxName), 1, 0, 5)), facingsOf(facing("é", 1, 0, 5), facing("ß", 1, 0, 5)),
	}
	for _, width := range []int{1, 2, impl.MaxWidth - 1, impl.MaxWidth} {
		lists = append(lists, facingsOf(facing("a", width, 0, 5)))
	}
	for count := range impl.MaxFacings {
		for least := range count + 2 {
			lists = append(lists, facingsOf(facing("a", 3, least, alike(9, count+1)...)))
		}
		for _, gain := range []int{0, 1, impl.MaxGain - 1, impl.MaxGain} {
			f := facing("a", 3, 0, alike(9, impl.MaxFacings)...)
			f.Gains[count] = gain
			lists = append(lists, facingsOf(f))
		}
	}
	return lists
}

// wrongFacing are wrong on their own.
func wrongFacing() []impl.Facing {
	list := []impl.Facing{
		{}, facing("a", 3, 0), {Name: "a", Width: 3, Gains: []int{}}, facing("a", 3, 0, alike(9, impl.MaxFacings+1)...), facing("a", 3, 0, alike(9, impl.MaxList+1)...), facing("a", 3, 0, alike(9, 1000000)...),
		facing("a", 3, 1), facing("a", 3, 2, 9), facing("a", 3, 7, alike(9, impl.MaxFacings)...), facing("a", 3, -1, alike(9, impl.MaxFacings)...), facing("a", 3, math.MaxInt, 9), facing("a", 3, math.MinInt, 9),
	}
	for _, width := range []int{math.MinInt, -1, 0, impl.MaxWidth + 1, math.MaxInt} {
		list = append(list, facing("a", width, 0, 9))
	}
	for place := range impl.MaxFacings {
		for _, gain := range []int{math.MinInt, -1, impl.MaxGain + 1, math.MaxInt} {
			f := facing("a", 3, 0, alike(9, impl.MaxFacings)...)
			f.Gains[place] = gain
			list = append(list, f)
		}
	}
	for _, name := range textsThatAreNoNames() {
		list = append(list, facing(name, 3, 0, 9))
	}
	return list
}

func wrongFacings() [][]impl.Facing {
	lists := [][]impl.Facing{
		manyFacings(impl.MaxShelf+1, 1, 0, 5), manyFacings(impl.MaxList, 1, 0, 5), manyFacings(impl.MaxList+1, 1, 0, 5), make([]impl.Facing, impl.MaxList+1),
		facingsOf(facing("a", 1, 0, 5), facing("a", 1, 0, 5)), facingsOf(facing("a", 1, 0, 5), facing("b", 1, 0, 5), facing("a", 2, 1, 6)), facingsOf(facing("b", 1, 0, 5), facing("é", 1, 0, 5), facing("é", 2, 1, 6)),
	}
	for _, wrong := range wrongFacing() {
		lists = append(lists, facingsOf(wrong))
	}
	for place := range impl.MaxShelf {
		for _, wrong := range wrongFacing() {
			list := manyFacings(impl.MaxShelf, 1, 0, 5)
			list[place] = wrong
			lists = append(lists, list)
		}
		for other := range place {
			list := manyFacings(impl.MaxShelf, 1, 0, 5)
			list[place].Name = list[other].Name
			lists = append(lists, list)
		}
	}
	return lists
}

func leastOf(list []impl.Facing) []int {
	var counts []int
	for _, f := range list {
		counts = append(counts, f.Least)
	}
	return counts
}

func fullOf(list []impl.Facing) []int {
	var counts []int
	for _, f := range list {
		counts = append(counts, len(f.Gains))
	}
	return counts
}

func TestFacingsThatAreRight(t *testing.T) {
	for _, list := range rightFacings() {
		if !impl.FacingsOK(list) {
			t.Errorf("FacingsOK(%v): they are right", list)
		}
		for _, width := range []int{0, 1, 100, impl.MaxWidth} {
			for _, counts := range [][]int{leastOf(list), fullOf(list)} {
				want, code := shelfByWords(list, width, counts)
				wantShelf(t, "facings that are right", list, width, counts, want, code)
			}
		}
	}
}

func TestFacingsThatAreWrong(t *testing.T) {
	for _, list := range wrongFacings() {
		if impl.FacingsOK(list) {
			t.Errorf("FacingsOK(%.300v): they are wrong", list)
		}
		want := impl.ErrBad
		if len(list) > impl.MaxList {
			want = impl.ErrLong
		}
		for _, width := range []int{0, 1, impl.MaxWidth, impl.MaxWidth + 1, -1, math.MaxInt, math.MinInt} {
			wantNoShelf(t, "facings that are wrong", list, width, alike(1, min(len(list), impl.MaxList)), want)
			wantNoShelf(t, "facings that are wrong, and no counts", list, width, nil, want)
			wantNoShelf(t, "facings that are wrong, and very many counts", list, width, alike(1, impl.MaxList+1), impl.ErrLong)
			wantNoPlan(t, "facings that are wrong", list, width, want)
		}
	}
}

func TestShelfWidthOutOfRange(t *testing.T) {
	for _, list := range rightFacings() {
		for _, width := range []int{math.MinInt, -impl.MaxWidth, -1, impl.MaxWidth + 1, math.MaxInt} {
			for _, counts := range [][]int{leastOf(list), fullOf(list), nil, alike(-1, len(list)), alike(0, impl.MaxList)} {
				wantNoShelf(t, "a width that is out of range", list, width, counts, impl.ErrRange)
			}
			wantNoPlan(t, "a width that is out of range", list, width, impl.ErrRange)
			wantNoShelf(t, "very many counts", list, width, alike(0, impl.MaxList+1), impl.ErrLong)
		}
	}
}

func TestShelfCountsThatDoNotFit(t *testing.T) {
	list := teaShelf()
	for _, counts := range [][]int{
		nil, {}, {1}, {1, 0, 0}, {1, 0, 0, 2, 0}, {1, 0, 0, 2, 2}, {0, 0, 0, 2}, {1, 0, 0, 1}, {1, -1, 0, 2}, {1, 0, -1, 2}, {4, 0, 0, 2}, {1, 3, 0, 2}, {1, 0, 2, 2}, {1, 0, 0, 5}, {-1, 0, 0, 2}, {0, 0, 0, 0}, {2, 0, 1, 0},
		{math.MinInt, 0, 0, 2}, {math.MaxInt, 0, 0, 2}, {1, 0, 0, math.MaxInt}, {1, 0, 0, math.MinInt}, {math.MaxInt, math.MaxInt, math.MaxInt, math.MaxInt}, alike(1, impl.MaxList),
	} {
		for _, width := range []int{0, 10, impl.MaxWidth} {
			wantNoShelf(t, "counts that do not fit", list, width, counts, impl.ErrForm)
		}
	}
	wantNoShelf(t, "very many counts", list, 100, alike(1, impl.MaxList+1), impl.ErrLong)
	wantNoShelf(t, "a count and no facing", nil, 100, []int{0}, impl.ErrForm)
	wantNoShelf(t, "no count for the one facing", facingsOf(facing("a", 1, 0, 5)), 100, nil, impl.ErrForm)
	for place := range impl.MaxShelf {
		for _, count := range []int{math.MinInt, -1, 0, 1, 5, 6, math.MaxInt} {
			counts := alike(3, impl.MaxShelf)
			counts[place] = count
			wantNoShelf(t, "one that does not fit", manyFacings(impl.MaxShelf, 1, 2, 5, 5, 5, 5), 100, counts, impl.ErrForm)
		}
	}
}

func TestP14ShelfByHand(t *testing.T) {
	list := teaShelf()
	for _, c := range []struct {
		what             string
		width            int
		counts           []int
		used, gain, code int
	}{
		{"the Least of each", 100, []int{1, 0, 0, 2}, 44, 11, impl.OK},
		{"the Least use just the width", 44, []int{1, 0, 0, 2}, 44, 11, impl.OK},
		{"the Least use one more", 43, []int{1, 0, 0, 2}, 0, 0, impl.ErrFull},
		{"all of each", 300, []int{3, 2, 1, 4}, 208, 89, impl.OK},
		{"all of each use just the width", 208, []int{3, 2, 1, 4}, 208, 89, impl.OK},
		{"all of each use one more", 207, []int{3, 2, 1, 4}, 0, 0, impl.ErrFull},
		{"gains that rise", 2000, []int{1, 0, 0, 3}, 51, 16, impl.OK},
		{"gains that fall", 2000, []int{2, 0, 0, 2}, 74, 20, impl.OK},
		{"the last of each", 129, []int{1, 1, 1, 4}, 128, 71, impl.OK},
		{"no room at all", 0, []int{1, 0, 0, 2}, 0, 0, impl.ErrFull},
		{"no room at all, and counts that do not fit", 0, []int{0, 0, 0, 2}, 0, 0, impl.ErrForm},
	} {
		want := impl.ShelfPlan{Used: c.used, Gain: c.gain}
		if c.code == impl.OK {
			want.Counts = c.counts
		}
		wantShelf(t, c.what, list, c.width, c.counts, want, c.code)
		if words, code := shelfByWords(list, c.width, c.counts); code != c.code || !samePlan(words, want) {
			t.Errorf("%s: by the words %v, %d", c.what, words, code)
		}
	}
}

func TestShelfEdges(t *testing.T) {
	for _, width := range []int{0, 1, impl.MaxWidth} {
		wantShelf(t, "no facing at all", nil, width, nil, impl.ShelfPlan{}, impl.OK)
		wantShelf(t, "nothing of one", facingsOf(facing("a", 1, 0, 5)), width, []int{0}, impl.ShelfPlan{Counts: []int{0}}, impl.OK)
	}
	widest := facingsOf(facing("a", impl.MaxWidth, 0, impl.MaxGain, 1))
	wantShelf(t, "the widest", widest, impl.MaxWidth, []int{1}, impl.ShelfPlan{Counts: []int{1}, Used: impl.MaxWidth, Gain: impl.MaxGain}, impl.OK)
	wantNoShelf(t, "the widest on less", widest, impl.MaxWidth-1, []int{1}, impl.ErrFull)
	wantNoShelf(t, "the widest twice", widest, impl.MaxWidth, []int{2}, impl.ErrFull)
	all := manyFacings(impl.MaxShelf, 27, 6, alike(impl.MaxGain, impl.MaxFacings)...)
	wantShelf(t, "all there can be", all, 1944, alike(6, impl.MaxShelf), impl.ShelfPlan{Counts: alike(6, impl.MaxShelf), Used: 1944, Gain: 7200000}, impl.OK)
	wantNoShelf(t, "all there can be on one less", all, 1943, alike(6, impl.MaxShelf), impl.ErrFull)
	wantNoShelf(t, "the most that can be used", manyFacings(impl.MaxShelf, impl.MaxWidth, 0, alike(1, impl.MaxFacings)...), impl.MaxWidth, alike(6, impl.MaxShelf), impl.ErrFull)
	wantShelf(t, "room that gains nothing", facingsOf(facing("a", 9, 1, 0, 0, 0)), 27, []int{3}, impl.ShelfPlan{Counts: []int{3}, Used: 27}, impl.OK)
}

// Each fault here stands together with all that are named behind it.
func TestShelfWhichFaultComesFirst(t *testing.T) {
	wrong, right := facingsOf(facing("a", 0, 1, 9), facing("a", 3, 1, 9)), facingsOf(facing("a", 3, 1, 9), facing("b", 3, 1, 9))
	for _, c := range []struct {
		list   []impl.Facing
		width  int
		counts []int
		code   int
	}{
		{make([]impl.Facing, impl.MaxList+1), -1, []int{0}, impl.ErrLong}, {wrong, -1, alike(7, impl.MaxList+1), impl.ErrLong}, {right, 3, alike(1, impl.MaxList+1), impl.ErrLong},
		{make([]impl.Facing, impl.MaxList), -1, []int{7}, impl.ErrBad}, {wrong, -1, []int{0, 7}, impl.ErrBad}, {wrong, 5, []int{1, 7}, impl.ErrBad}, {wrong, 5, []int{1, 1}, impl.ErrBad},
		{right, -1, []int{0, 7}, impl.ErrRange}, {right, impl.MaxWidth + 1, []int{1}, impl.ErrRange}, {right, -1, []int{1, 1}, impl.ErrRange},
		{right, 0, []int{1, 2}, impl.ErrForm}, {right, 5, []int{2, 0}, impl.ErrForm}, {right, 5, []int{1, 1, 1}, impl.ErrForm}, {right, 0, []int{1}, impl.ErrForm},
		{right, 5, []int{1, 1}, impl.ErrFull},
	} {
		wantNoShelf(t, "which fault comes first", c.list, c.width, c.counts, c.code)
	}
	wantShelf(t, "no fault at all", right, 6, []int{1, 1}, impl.ShelfPlan{Counts: []int{1, 1}, Used: 6, Gain: 18}, impl.OK)
}

// eachCounts goes through all counts with from least to most of each, in the order of lists.
func eachCounts(places, least, most int, do func([]int)) {
	counts := alike(least, places)
	for {
		do(slices.Clone(counts))
		place := places - 1
		for place >= 0 && counts[place] == most {
			counts[place] = least
			place--
		}
		if place < 0 {
			return
		}
		counts[place]++
	}
}

func TestP14EveryCountOfASmallShelf(t *testing.T) {
	list := facingsOf(facing("a", 4, 1, 3, 0, 9), facing("b", 3, 0, 2, 5), facing("c", 5, 2, 7, 7))
	seen := map[int]int{}
	for _, width := range []int{0, 14, 17, 20, 28, 100} {
		eachCounts(3, -1, 4, func(counts []int) {
			want, code := shelfByWords(list, width, counts)
			wantShelf(t, fmt.Sprint("on ", width), list, width, counts, want, code)
			seen[code]++
		})
	}
	if seen[impl.OK] < 10 || seen[impl.ErrForm] < 10 || seen[impl.ErrFull] < 10 {
		t.Error("too few of one kind", seen)
	}
}

package tests

import (
	"fmt"
	"math"
	"math/rand/v2"
	"slices"
	"testing"

	"loop.example/g00067/impl"
)

func picksCodeByWords(h impl.Hall, picks []impl.Spot) int {
	switch {
	case len(picks) > 4096:
		return impl.ErrLong
	case len(picks) > 9:
		return impl.ErrMany
	case !hallByWords(h):
		return impl.ErrBad
	}
	for _, pick := range picks {
		if !spotByWords(h, pick) {
			return impl.ErrBad
		}
	}
	return impl.OK
}

// pathByWords adds up each pair that follow one another on the way, the front of aisle 0 first and last.
func pathByWords(h impl.Hall, picks []impl.Spot, order []int) (int, int) {
	if len(order) > 4096 {
		return 0, impl.ErrLong
	}
	if code := picksCodeByWords(h, picks); code != impl.OK {
		return 0, code
	}
	seen := make([]int, len(picks))
	spots := []impl.Spot{{}}
	for _, number := range order {
		if number < 0 || number >= len(picks) || seen[number] > 0 {
			return 0, impl.ErrForm
		}
		seen[number]++
		spots = append(spots, picks[number])
	}
	if len(order) != len(picks) {
		return 0, impl.ErrForm
	}
	length := 0
	for place, s := range spots {
		far, _ := betweenByWords(h, s, spots[(place+1)%len(spots)])
		length += far
	}
	return length, impl.OK
}

// eachOrder makes all orders of the numbers below count, from the least on.
func eachOrder(count int, do func([]int)) {
	var order []int
	var goOn func()
	goOn = func() {
		if len(order) == count {
			do(slices.Clone(order))
			return
		}
		for number := range count {
			if !slices.Contains(order, number) {
				order = append(order, number)
				goOn()
				order = order[:len(order)-1]
			}
		}
	}
	goOn()
}

// bestPathBySearch looks at all orders; the first of the shortest is the least.
func bestPathBySearch(h impl.Hall, picks []impl.Spot) ([]int, int, int) {
	if code := picksCodeByWords(h, picks); code != impl.OK {
		return nil, 0, code
	}
	var best []int
	shortest := math.MaxInt
	eachOrder(len(picks), func(order []int) {
		if length, _ := pathByWords(h, picks, order); length < shortest {
			best, shortest = order, length
		}
	})
	return best, shortest, impl.OK
}

// bestPathByRests asks for each set of picks that are left, and the pick where one is, how short the rest is; then it takes the least number that keeps to it.
func bestPathByRests(h impl.Hall, picks []impl.Spot) ([]int, int) {
	type rest struct{ left, at int }
	known := map[rest]int{}
	spotAt := func(at int) impl.Spot {
		if at < 0 {
			return impl.Spot{}
		}
		return picks[at]
	}
	var shortest func(r rest) int
	step := func(r rest, next int) int {
		far, _ := betweenByWords(h, spotAt(r.at), picks[next])
		return far + shortest(rest{r.left &^ (1 << next), next})
	}
	shortest = func(r rest) int {
		if length, is := known[r]; is {
			return length
		}
		length, _ := betweenByWords(h, spotAt(r.at), impl.Spot{})
		if r.left != 0 {
			length = math.MaxInt
		}
		for next := range picks {
			if r.left&(1<<next) != 0 {
				length = min(length, step(r, next))
			}
		}
		known[r] = length
		return length
	}
	here := rest{1<<len(picks) - 1, -1}
	whole := shortest(here)
	var order []int
	for here.left != 0 {
		next := 0
		for here.left&(1<<next) == 0 || step(here, next) != shortest(here) {
			next++
		}
		order = append(order, next)
		here = rest{here.left &^ (1 << next), next}
	}
	return order, whole
}

func wantPath(t *testing.T, h impl.Hall, picks []impl.Spot, order []int, want, wantCode int) {
	t.Helper()
	if length, code := impl.PathLength(h, picks, order); length != want || code != wantCode {
		t.Errorf("PathLength(%+v, %.300s, %.300s) = %d, %d; want %d, %d", h, fmt.Sprint(picks), fmt.Sprint(order), length, code, want, wantCode)
	}
}

func wantPathByWords(t *testing.T, h impl.Hall, picks []impl.Spot, order []int) int {
	t.Helper()
	want, code := pathByWords(h, picks, order)
	wantPath(t, h, picks, order, want, code)
	return code
}

func wantBestPath(t *testing.T, h impl.Hall, picks []impl.Spot, wantOrder []int, want, wantCode int) {
	t.Helper()
	order, length, code := impl.BestPath(h, picks)
	if length != want || code != wantCode || !slices.Equal(order, wantOrder) {
		t.Errorf("BestPath(%+v, %.300s) = %v, %d, %d; want %v, %d, %d", h, fmt.Sprint(picks), order, length, code, wantOrder, want, wantCode)
	}
}

func wantNoBestPath(t *testing.T, h impl.Hall, picks []impl.Spot, code int) {
	t.Helper()
	wantBestPath(t, h, picks, nil, 0, code)
}

func wantBestPathBySearch(t *testing.T, h impl.Hall, picks []impl.Spot) {
	t.Helper()
	order, length, code := bestPathBySearch(h, picks)
	wantBestPath(t, h, picks, order, length, code)
}

func somePicks(r *rand.Rand, h impl.Hall, count int) []impl.Spot {
	var picks []impl.Spot
	for range count {
		if len(picks) > 0 && r.IntN(6) == 0 {
			picks = append(picks, picks[r.IntN(len(picks))])
			continue
		}
		picks = append(picks, someSpot(r, h))
	}
	return picks
}

func ordersThatFitNot(count int) [][]int {
	right := numbersUpTo(count)
	lists := [][]int{
		append(slices.Clone(right), count), // too long
		append(slices.Clone(right), 0),
		append([]int{-1}, right...),
		alike(0, impl.MaxList),
		alike(count, 1000),
		{-1}, {math.MinInt}, {math.MaxInt},
	}
	if count == 0 {
		return lists
	}
	lists = append(lists, nil, right[:count-1], right[1:], alike(-1, count), alike(count, count))
	for place := range count {
		for _, wrong := range []int{math.MinInt, -count, -1, count, count + 1, math.MaxInt} {
			list := slices.Clone(right)
			list[place] = wrong
			lists = append(lists, list)
		}
		for other := range count {
			if other != place {
				list := slices.Clone(right)
				list[place] = other // a number twice
				lists = append(lists, list)
			}
		}
	}
	return lists
}

func TestP20PathsByHand(t *testing.T) {
	for _, c := range []struct {
		h     impl.Hall
		picks []impl.Spot
		order []int
		want  int
	}{
		{teaHall(), nil, nil, 0},
		{teaHall(), teaPicks(), []int{0, 1, 2}, 12 + 11 + 10 + 5},
		{teaHall(), teaPicks(), []int{1, 0, 2}, 28},
		{teaHall(), teaPicks(), []int{2, 0, 1}, 28}, // the other way round
		{teaHall(), spotsOf([2]int{0, 7}), []int{0}, 14},
		{teaHall(), spotsOf([2]int{0, 11}), []int{0}, 22},
		{teaHall(), spotsOf([2]int{0, 0}), []int{0}, 0}, // at the front of aisle 0
		{teaHall(), spotsOf([2]int{3, 11}), []int{0}, 40},
		{teaHall(), spotsOf([2]int{2, 4}, [2]int{2, 4}), []int{1, 0}, 20}, // on one spot
		{teaHall(), spotsOf([2]int{0, 3}, [2]int{0, 9}), []int{0, 1}, 18},
		{teaHall(), spotsOf([2]int{0, 3}, [2]int{0, 9}), []int{1, 0}, 18},
		{teaHall(), spotsOf([2]int{0, 9}, [2]int{1, 9}), []int{0, 1}, 9 + 7 + 12},
		{hall(20, 100, 100), slices.Repeat(spotsOf([2]int{19, 101}), 9), []int{8, 7, 6, 5, 4, 3, 2, 1, 0}, 4002},
		{hall(20, 100, 100), spotsOf([2]int{19, 101}, [2]int{0, 0}, [2]int{19, 101}, [2]int{0, 0}, [2]int{19, 101}, [2]int{0, 0}, [2]int{19, 101}, [2]int{0, 0}, [2]int{19, 101}), []int{0, 1, 2, 3, 4, 5, 6, 7, 8}, 10 * 2001},
	} {
		wantPath(t, c.h, c.picks, c.order, c.want, impl.OK)
		if length, code := pathByWords(c.h, c.picks, c.order); length != c.want || code != impl.OK {
			t.Errorf("%v: by the words %d, %d", c, length, code)
		}
	}
}

func TestP20BestPathsByHand(t *testing.T) {
	for _, c := range []struct {
		h     impl.Hall
		picks []impl.Spot
		order []int
		want  int
	}{
		{teaHall(), nil, nil, 0},
		{teaHall(), teaPicks(), []int{1, 0, 2}, 28}, // up aisle 0, over the back, down aisle 1
		{teaHall(), spotsOf([2]int{0, 0}), []int{0}, 0},
		{teaHall(), spotsOf([2]int{3, 11}), []int{0}, 40},
		{teaHall(), spotsOf([2]int{0, 9}, [2]int{0, 3}), []int{0, 1}, 18}, // on the way there or back: several are best
		{teaHall(), spotsOf([2]int{0, 3}, [2]int{0, 9}, [2]int{0, 6}), []int{0, 1, 2}, 18},
		{teaHall(), spotsOf([2]int{2, 4}, [2]int{2, 4}, [2]int{2, 4}), []int{0, 1, 2}, 20}, // on one spot
		{teaHall(), spotsOf([2]int{1, 1}, [2]int{0, 0}, [2]int{1, 1}), []int{0, 2, 1}, 8},  // the front of aisle 0 last, as what is on one spot is no way
		{teaHall(), spotsOf([2]int{0, 1}, [2]int{1, 1}, [2]int{2, 1}), []int{0, 1, 2}, 18},
		{teaHall(), spotsOf([2]int{0, 11}, [2]int{1, 11}, [2]int{2, 11}), []int{0, 1, 2}, 11 + 3 + 3 + 17},
		{teaHall(), spotsOf([2]int{3, 10}, [2]int{0, 10}), []int{0, 1}, 9 + 10 + 11 + 10},
		{teaHall(), spotsOf([2]int{0, 10}, [2]int{1, 10}), []int{0, 1}, 10 + 5 + 13},
		{hall(1, 1, 1), spotsOf([2]int{0, 1}, [2]int{0, 2}, [2]int{0, 0}), []int{0, 1, 2}, 4},
		{hall(20, 100, 100), slices.Repeat(spotsOf([2]int{19, 101}), 9), []int{0, 1, 2, 3, 4, 5, 6, 7, 8}, 4002},
		{hall(20, 100, 1), spotsOf([2]int{0, 50}, [2]int{19, 50}), []int{0, 1}, 50 + 119 + 69},
	} {
		order, length, _ := bestPathBySearch(c.h, c.picks[:min(len(c.picks), 3)])
		if len(c.picks) <= 3 && (length != c.want || !slices.Equal(order, c.order)) {
			t.Errorf("%v: by a search %v, %d", c, order, length)
		}
		wantBestPath(t, c.h, c.picks, c.order, c.want, impl.OK)
	}
}

func TestPathsThatAreWrong(t *testing.T) {
	for _, h := range wrongHalls() {
		for _, picks := range [][]impl.Spot{nil, {}, spotsOf([2]int{0, 0}), teaPicks(), slices.Repeat(teaPicks(), 3)} {
			wantPath(t, h, picks, nil, 0, impl.ErrBad)
			wantPath(t, h, picks, []int{0, 1, 2}, 0, impl.ErrBad)
			wantNoBestPath(t, h, picks, impl.ErrBad)
		}
	}
	for _, h := range edgeHalls() {
		for _, wrong := range wrongSpots(h) {
			for place := range 3 {
				picks := spotsOf([2]int{0, 0}, [2]int{h.Aisles - 1, h.Places + 1}, [2]int{0, 1})
				picks[place] = wrong
				wantPath(t, h, picks, []int{0, 1, 2}, 0, impl.ErrBad)
				wantNoBestPath(t, h, picks, impl.ErrBad)
			}
			picks := append(make([]impl.Spot, impl.MaxPicks-1), wrong)
			wantPath(t, h, picks, []int{0, 1, 2, 3, 4, 5, 6, 7, 8}, 0, impl.ErrBad)
			wantNoBestPath(t, h, picks, impl.ErrBad)
		}
	}
	for count := range impl.MaxPicks + 1 {
		for _, order := range ordersThatFitNot(count) {
			wantPath(t, teaHall(), make([]impl.Spot, count), order, 0, impl.ErrForm)
		}
	}
}

func TestPathsWhichFaultComesFirst(t *testing.T) {
	halls := append(wrongHalls(), teaHall())
	for _, h := range halls {
		for _, count := range []int{impl.MaxPicks + 1, impl.MaxPicks + 2, 100, impl.MaxList} {
			for _, picks := range [][]impl.Spot{make([]impl.Spot, count), slices.Repeat(spotsOf([2]int{-1, 0}), count), slices.Repeat(teaPicks(), count/3+1)[:count]} {
				for _, order := range [][]int{nil, {0}, {-1}, alike(0, count), alike(0, impl.MaxList)} {
					wantPath(t, h, picks, order, 0, impl.ErrMany)
				}
				wantPath(t, h, picks, alike(0, impl.MaxList+1), 0, impl.ErrLong)
				wantNoBestPath(t, h, picks, impl.ErrMany)
			}
		}
		for _, count := range []int{impl.MaxList + 1, 2 * impl.MaxList} {
			for _, picks := range [][]impl.Spot{make([]impl.Spot, count), slices.Repeat(spotsOf([2]int{-1, 0}), count)} {
				for _, order := range [][]int{nil, {0}, {-1}, alike(0, impl.MaxList), alike(0, impl.MaxList+1)} {
					wantPath(t, h, picks, order, 0, impl.ErrLong)
				}
				wantNoBestPath(t, h, picks, impl.ErrLong)
			}
		}
		wantPath(t, h, nil, alike(0, impl.MaxList+1), 0, impl.ErrLong)
		wantPath(t, h, teaPicks(), alike(0, impl.MaxList+1), 0, impl.ErrLong)
	}
	for _, order := range ordersThatFitNot(3) {
		for _, h := range wrongHalls() {
			wantPath(t, h, teaPicks(), order, 0, impl.ErrBad)
		}
		for _, wrong := range wrongSpots(teaHall()) {
			wantPath(t, teaHall(), []impl.Spot{{}, {}, wrong}, order, 0, impl.ErrBad)
		}
	}
}

// All halls of two aisles, and all picks in them, in all orders; with orders that fit not among them.
func TestP20EverySmallPath(t *testing.T) {
	seen := map[int]int{}
	for _, h := range []impl.Hall{hall(1, 2, 1), hall(2, 1, 1), hall(2, 2, 1), hall(2, 1, 4)} {
		all := append(spotsOfHall(h), spot(0, h.Places+2))
		for count := range 4 {
			eachCounts(count, 0, len(all)-1, func(numbers []int) {
				var picks []impl.Spot
				for _, number := range numbers {
					picks = append(picks, all[number])
				}
				eachCounts(count, -1, count, func(order []int) {
					seen[wantPathByWords(t, h, picks, order)]++
				})
				wantBestPathBySearch(t, h, picks)
			})
		}
	}
	if min(seen[impl.OK], seen[impl.ErrForm], seen[impl.ErrBad]) < 1000 {
		t.Error("too few of one code", seen)
	}
}

func TestP20NoWayIsShorter(t *testing.T) {
	r := fixed()
	for range 2500 {
		h := someHall(r)
		picks := somePicks(r, h, r.IntN(6))
		wantBestPathBySearch(t, h, picks)
		best, shortest, _ := impl.BestPath(h, picks)
		wantPath(t, h, picks, best, shortest, impl.OK)
		slices.Reverse(best)
		wantPath(t, h, picks, best, shortest, impl.OK)
		eachOrder(len(picks), func(order []int) {
			if code := wantPathByWords(t, h, picks, order); code != impl.OK {
				t.Fatalf("PathLength(%v, %v, %v): %d", h, picks, order, code)
			}
		})
	}
	for count := 6; count <= 7; count++ {
		for range 12 {
			h := someHall(r)
			wantBestPathBySearch(t, h, somePicks(r, h, count))
		}
	}
}

// The most picks, where one can not look at all orders.
func TestP20BestPathsOfManyPicks(t *testing.T) {
	r := fixed()
	for range 150 {
		h := someHall(r)
		picks := somePicks(r, h, 6+r.IntN(impl.MaxPicks-5))
		order, length := bestPathByRests(h, picks)
		wantBestPath(t, h, picks, order, length, impl.OK)
	}
	for _, h := range edgeHalls() {
		picks := edgeSpots(h)[:impl.MaxPicks]
		order, length := bestPathByRests(h, picks)
		wantBestPath(t, h, picks, order, length, impl.OK)
		picks = edgeSpots(h)[len(edgeSpots(h))-impl.MaxPicks:]
		order, length = bestPathByRests(h, picks)
		wantBestPath(t, h, picks, order, length, impl.OK)
	}
}

func TestBestPathsByRestsAreThoseOfASearch(t *testing.T) {
	r := fixed()
	for range 300 {
		h := someHall(r)
		picks := somePicks(r, h, r.IntN(6))
		order, length := bestPathByRests(h, picks)
		if want, shortest, _ := bestPathBySearch(h, picks); length != shortest || !slices.Equal(order, want) {
			t.Fatalf("%v, %v: %v, %d by rests; %v, %d by a search", h, picks, order, length, want, shortest)
		}
	}
}

// A pick less is no longer, a pick twice or at the front of aisle 0 is no longer either, and where the picks stand in their list says nothing of the length.
func TestP20APickLessIsNoLonger(t *testing.T) {
	r := fixed()
	for range 400 {
		h := someHall(r)
		picks := somePicks(r, h, 1+r.IntN(7))
		_, whole, _ := impl.BestPath(h, picks)
		for place := range picks {
			if _, less, code := impl.BestPath(h, slices.Delete(slices.Clone(picks), place, place+1)); less > whole || code != impl.OK {
				t.Fatalf("BestPath(%v, %v): %d; without pick %d %d, %d", h, picks, whole, place, less, code)
			}
		}
		more := append(slices.Clone(picks), picks[r.IntN(len(picks))], spot(0, 0))
		r.Shuffle(len(more), func(i, j int) { more[i], more[j] = more[j], more[i] })
		if _, length, code := impl.BestPath(h, more); length != whole || code != impl.OK {
			t.Fatalf("BestPath(%v, %v): %d, %d; want %d", h, more, length, code, whole)
		}
	}
}

package tests

import (
	"math"
	"math/rand/v2"
	"testing"

	"loop.example/g00067/impl"
)

func hall(aisles, places, gap int) impl.Hall {
	return impl.Hall{Aisles: aisles, Places: places, Gap: gap}
}

func spot(aisle, place int) impl.Spot { return impl.Spot{Aisle: aisle, Place: place} }

// spotsOf makes spots of pairs: Aisle and Place.
func spotsOf(pairs ...[2]int) []impl.Spot {
	var list []impl.Spot
	for _, pair := range pairs {
		list = append(list, spot(pair[0], pair[1]))
	}
	return list
}

// teaHall is right, and so are teaPicks in it.
func teaHall() impl.Hall { return hall(4, 10, 3) }

func teaPicks() []impl.Spot { return spotsOf([2]int{1, 9}, [2]int{0, 5}, [2]int{1, 2}) }

func hallByWords(h impl.Hall) bool {
	return 1 <= h.Aisles && h.Aisles <= 20 && 1 <= h.Places && h.Places <= 100 && 1 <= h.Gap && h.Gap <= 100
}

func spotByWords(h impl.Hall, s impl.Spot) bool {
	return 0 <= s.Aisle && s.Aisle < h.Aisles && 0 <= s.Place && s.Place <= h.Places+1
}

// betweenByWords goes both ways step by step: along an aisle, over the gaps, and along the other one.
func betweenByWords(h impl.Hall, a, b impl.Spot) (int, int) {
	if !hallByWords(h) || !spotByWords(h, a) || !spotByWords(h, b) {
		return 0, impl.ErrBad
	}
	if a.Aisle == b.Aisle {
		return max(a.Place, b.Place) - min(a.Place, b.Place), impl.OK
	}
	gaps := 0
	for aisle := min(a.Aisle, b.Aisle); aisle < max(a.Aisle, b.Aisle); aisle++ {
		gaps += h.Gap
	}
	front := a.Place + b.Place
	back := (h.Places + 1 - a.Place) + (h.Places + 1 - b.Place)
	return gaps + min(front, back), impl.OK
}

func spotsOfHall(h impl.Hall) []impl.Spot {
	var all []impl.Spot
	for aisle := range h.Aisles {
		for place := range h.Places + 2 {
			all = append(all, spot(aisle, place))
		}
	}
	return all
}

// farFrom tells how far each spot of a hall is from one, by steps alone: to the next place of an aisle, and at the front and at the back to the next aisle.
func farFrom(h impl.Hall, start impl.Spot) map[impl.Spot]int {
	far := map[impl.Spot]int{start: 0}
	for changed := true; changed; {
		changed = false
		for _, s := range spotsOfHall(h) {
			for _, step := range stepsFrom(h, s) {
				known, was := far[step.to]
				from, is := far[s]
				if is && (!was || from+step.length < known) {
					far[step.to] = from + step.length
					changed = true
				}
			}
		}
	}
	return far
}

type hallStep struct {
	to     impl.Spot
	length int
}

func stepsFrom(h impl.Hall, s impl.Spot) []hallStep {
	steps := []hallStep{{spot(s.Aisle, s.Place-1), 1}, {spot(s.Aisle, s.Place+1), 1}}
	if s.Place == 0 || s.Place == h.Places+1 {
		steps = append(steps, hallStep{spot(s.Aisle-1, s.Place), h.Gap}, hallStep{spot(s.Aisle+1, s.Place), h.Gap})
	}
	var within []hallStep
	for _, step := range steps {
		if spotByWords(h, step.to) {
			within = append(within, step)
		}
	}
	return within
}

func wantBetween(t *testing.T, h impl.Hall, a, b impl.Spot, want, wantCode int) {
	t.Helper()
	if far, code := impl.Between(h, a, b); far != want || code != wantCode {
		t.Errorf("Between(%+v, %+v, %+v) = %d, %d; want %d, %d", h, a, b, far, code, want, wantCode)
	}
	if far, code := impl.Between(h, b, a); far != want || code != wantCode {
		t.Errorf("Between(%+v, %+v, %+v) = %d, %d; want %d, %d as the other way round", h, b, a, far, code, want, wantCode)
	}
}

func wantBetweenByWords(t *testing.T, h impl.Hall, a, b impl.Spot) int {
	t.Helper()
	want, code := betweenByWords(h, a, b)
	wantBetween(t, h, a, b, want, code)
	return code
}

func wrongHalls() []impl.Hall {
	halls := []impl.Hall{{}, hall(-1, -1, -1), hall(math.MinInt, math.MinInt, math.MinInt), hall(math.MaxInt, math.MaxInt, math.MaxInt)}
	for _, n := range []int{math.MinInt, math.MinInt + 1, -100, -1, 0, 101, math.MaxInt - 1, math.MaxInt} {
		halls = append(halls, hall(n, 10, 3), hall(4, n, 3), hall(4, 10, n))
	}
	return append(halls, hall(impl.MaxAisles+1, 10, 3), hall(impl.MaxPlaces, 10, 3), hall(4, impl.MaxPlaces+1, 3), hall(4, 10, impl.MaxPlaces+1))
}

// edgeHalls are right, but just so.
func edgeHalls() []impl.Hall {
	var halls []impl.Hall
	for _, aisles := range []int{1, 2, impl.MaxAisles - 1, impl.MaxAisles} {
		for _, places := range []int{1, 2, impl.MaxPlaces - 1, impl.MaxPlaces} {
			for _, gap := range []int{1, 2, impl.MaxPlaces - 1, impl.MaxPlaces} {
				halls = append(halls, hall(aisles, places, gap))
			}
		}
	}
	return halls
}

// wrongSpots are each no spot of h by one thing alone, but for the last ones.
func wrongSpots(h impl.Hall) []impl.Spot {
	var list []impl.Spot
	for _, n := range []int{math.MinInt, math.MinInt + 1, -1, math.MaxInt - 1, math.MaxInt} {
		list = append(list, spot(n, 0), spot(0, n))
	}
	list = append(list, spot(h.Aisles, 0), spot(h.Aisles, h.Places+1), spot(h.Aisles+1, 1), spot(0, h.Places+2), spot(h.Aisles-1, h.Places+2), spot(0, h.Places+3))
	return append(list, spot(-1, -1), spot(h.Aisles, h.Places+2), spot(math.MinInt, math.MinInt), spot(math.MaxInt, math.MaxInt))
}

// edgeSpots are spots of h, but just so.
func edgeSpots(h impl.Hall) []impl.Spot {
	var list []impl.Spot
	for _, aisle := range []int{0, h.Aisles / 2, h.Aisles - 1} {
		for _, place := range []int{0, 1, (h.Places + 1) / 2, h.Places, h.Places + 1} {
			list = append(list, spot(aisle, place))
		}
	}
	return list
}

func someHall(r *rand.Rand) impl.Hall {
	places := []int{1, 2, 5, 20, impl.MaxPlaces}
	return hall(1+r.IntN(impl.MaxAisles), 1+r.IntN(places[r.IntN(5)]), 1+r.IntN(places[r.IntN(5)]))
}

func someSpot(r *rand.Rand, h impl.Hall) impl.Spot {
	return spot(r.IntN(h.Aisles), r.IntN(h.Places+2))
}

func TestP20BetweenByHand(t *testing.T) {
	for _, c := range []struct {
		h    impl.Hall
		a, b impl.Spot
		want int
	}{
		{teaHall(), spot(0, 0), spot(0, 7), 7},
		{teaHall(), spot(0, 2), spot(2, 3), 11},
		{teaHall(), spot(0, 9), spot(1, 10), 6},
		{teaHall(), spot(2, 4), spot(2, 4), 0},   // the same spot twice
		{teaHall(), spot(3, 0), spot(3, 11), 11}, // one aisle from its front to its back
		{teaHall(), spot(1, 2), spot(1, 9), 7},   // within an aisle neither by the front nor by the back
		{teaHall(), spot(1, 10), spot(1, 11), 1},
		{teaHall(), spot(0, 0), spot(1, 0), 3},
		{teaHall(), spot(0, 11), spot(1, 11), 3}, // the back of both
		{teaHall(), spot(0, 0), spot(3, 0), 9},   // a gap for each of the two between, and one more
		{teaHall(), spot(0, 0), spot(1, 11), 14}, // as long by the front as by the back
		{teaHall(), spot(0, 5), spot(1, 6), 3 + 11},
		{teaHall(), spot(0, 4), spot(1, 6), 3 + 10}, // by the front
		{teaHall(), spot(0, 6), spot(1, 6), 3 + 10}, // by the back
		{teaHall(), spot(0, 5), spot(3, 5), 9 + 10},
		{teaHall(), spot(0, 6), spot(3, 6), 9 + 10},
		{hall(1, 1, 1), spot(0, 0), spot(0, 2), 2},
		{hall(2, 1, 1), spot(0, 1), spot(1, 1), 3},
		{hall(2, 1, 100), spot(0, 0), spot(1, 0), 100},
		{hall(2, 1, 100), spot(0, 2), spot(1, 0), 102},
		{hall(2, 1, 100), spot(0, 1), spot(1, 2), 101},
		{hall(20, 100, 100), spot(0, 0), spot(19, 101), 1900 + 101}, // the farthest
		{hall(20, 100, 100), spot(0, 50), spot(19, 51), 1900 + 101},
		{hall(20, 100, 100), spot(0, 51), spot(19, 51), 1900 + 100},
		{hall(20, 100, 100), spot(0, 50), spot(19, 50), 1900 + 100},
	} {
		wantBetween(t, c.h, c.a, c.b, c.want, impl.OK)
		if far, code := betweenByWords(c.h, c.a, c.b); far != c.want || code != impl.OK {
			t.Errorf("%v: by the words %d, %d", c, far, code)
		}
	}
}

func TestP20BetweenAgainstStepsThroughAHall(t *testing.T) {
	for aisles := 1; aisles <= 4; aisles++ {
		for places := 1; places <= 6; places++ {
			for _, gap := range []int{1, 2, 3, 5, 9, 30} {
				h := hall(aisles, places, gap)
				for _, a := range spotsOfHall(h) {
					far := farFrom(h, a)
					for _, b := range spotsOfHall(h) {
						wantBetween(t, h, a, b, far[b], impl.OK)
					}
				}
			}
		}
	}
}

// Places that make up one aisle are as far by the front as by the back; with one place less the front is nearer, with one more the back.
func TestP20BetweenWhereFrontAndBackMeet(t *testing.T) {
	for _, h := range edgeHalls() {
		if h.Aisles == 1 {
			continue
		}
		for place := range h.Places + 2 {
			gaps := h.Gap * (h.Aisles - 1)
			wantBetween(t, h, spot(0, place), spot(h.Aisles-1, h.Places+1-place), gaps+h.Places+1, impl.OK)
			if place <= h.Places {
				wantBetween(t, h, spot(0, place), spot(h.Aisles-1, h.Places-place), gaps+h.Places, impl.OK)
				wantBetween(t, h, spot(0, place+1), spot(h.Aisles-1, h.Places+1-place), gaps+h.Places, impl.OK)
			}
		}
	}
}

func TestP20BetweenAtTheEdges(t *testing.T) {
	for _, h := range edgeHalls() {
		for _, a := range edgeSpots(h) {
			for _, b := range edgeSpots(h) {
				if code := wantBetweenByWords(t, h, a, b); code != impl.OK {
					t.Errorf("Between(%v, %v, %v): %d", h, a, b, code)
				}
			}
			for _, wrong := range wrongSpots(h) {
				wantBetween(t, h, a, wrong, 0, impl.ErrBad)
			}
		}
		for _, a := range wrongSpots(h) {
			for _, b := range wrongSpots(h) {
				wantBetween(t, h, a, b, 0, impl.ErrBad)
			}
		}
	}
}

func TestBetweenInAHallThatIsWrong(t *testing.T) {
	for _, h := range wrongHalls() {
		for _, a := range append(wrongSpots(teaHall()), spot(0, 0), spot(0, 1), spot(1, 0), spot(3, 11)) {
			wantBetween(t, h, a, spot(0, 0), 0, impl.ErrBad)
			wantBetween(t, h, a, a, 0, impl.ErrBad)
		}
	}
}

// There and back it is as far, no detour is shorter, and only from a spot to itself it is no way.
func TestP20NoDetourIsShorter(t *testing.T) {
	r := fixed()
	for range 40000 {
		h := someHall(r)
		a, b, c := someSpot(r, h), someSpot(r, h), someSpot(r, h)
		for _, code := range []int{wantBetweenByWords(t, h, a, b), wantBetweenByWords(t, h, b, c), wantBetweenByWords(t, h, a, c)} {
			if code != impl.OK {
				t.Fatalf("Between(%v) of %v, %v, %v: %d", h, a, b, c, code)
			}
		}
		ab, _ := impl.Between(h, a, b)
		bc, _ := impl.Between(h, b, c)
		ac, _ := impl.Between(h, a, c)
		if ac > ab+bc || (ab == 0) != (a == b) || ab < 0 {
			t.Fatalf("Between(%v): %v to %v %d, to %v %d, at once %d", h, a, b, ab, c, bc, ac)
		}
	}
}

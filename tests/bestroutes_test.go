package tests

import (
	"fmt"
	"math"
	"slices"
	"testing"

	"loop.example/g00067/impl"
)

// bestRouteBySearch looks at all orders; the first of those that are back first is the least.
func bestRouteBySearch(stops []impl.Stop, begin int) (impl.Route, int) {
	if code := routesCodeByWords(stops, begin); code != impl.OK {
		return impl.Route{}, code
	}
	best, bestCode := impl.Route{End: math.MaxInt}, impl.ErrNone
	eachOrder(len(stops), func(order []int) {
		if route, code := routeByWords(stops, begin, order); code == impl.OK && route.End < best.End {
			best, bestCode = route, impl.OK
		}
	})
	if bestCode != impl.OK {
		return impl.Route{}, bestCode
	}
	return best, impl.OK
}

// leastEndByWords tells the three parts: begin, the greatest of the stops alone, and the stays with the greatest way.
func leastEndByWords(stops []impl.Stop, begin int) [3]int {
	parts := [3]int{begin, 0, begin}
	farthest := 0
	for _, s := range stops {
		s.To = math.MaxInt
		v := van{minute: begin}
		v.drive(s.X, s.Y)
		v.minute = max(v.minute, s.From) + s.Stay
		v.drive(0, 0)
		parts[1] = max(parts[1], v.minute)
		parts[2] += s.Stay
		farthest = max(farthest, farByWords(0, 0, s.X, s.Y))
	}
	parts[2] += farthest + farthest
	return parts
}

func wantBestRoute(t *testing.T, stops []impl.Stop, begin int, want impl.Route, wantCode int) {
	t.Helper()
	route, code := impl.BestRoute(stops, begin)
	if code != wantCode || !sameRoute(route, want) {
		t.Errorf("BestRoute(%.300s, %d) = %+v, %d; want %+v, %d", fmt.Sprint(stops), begin, route, code, want, wantCode)
	}
}

func wantNoBestRoute(t *testing.T, stops []impl.Stop, begin, code int) {
	t.Helper()
	wantBestRoute(t, stops, begin, impl.Route{}, code)
}

func wantBestRouteBySearch(t *testing.T, stops []impl.Stop, begin int) int {
	t.Helper()
	want, code := bestRouteBySearch(stops, begin)
	wantBestRoute(t, stops, begin, want, code)
	return code
}

func wantLeastEnd(t *testing.T, stops []impl.Stop, begin, want, wantCode int) {
	t.Helper()
	if end, code := impl.LeastEnd(stops, begin); end != want || code != wantCode {
		t.Errorf("LeastEnd(%.300s, %d) = %d, %d; want %d, %d", fmt.Sprint(stops), begin, end, code, want, wantCode)
	}
}

func wantLeastEndByWords(t *testing.T, stops []impl.Stop, begin int) {
	t.Helper()
	if code := routesCodeByWords(stops, begin); code != impl.OK {
		wantLeastEnd(t, stops, begin, 0, code)
		return
	}
	parts := leastEndByWords(stops, begin)
	wantLeastEnd(t, stops, begin, max(parts[0], parts[1], parts[2]), impl.OK)
}

func TestP21BestRoutesByHand(t *testing.T) {
	for _, c := range []struct {
		stops []impl.Stop
		begin int
		want  impl.Route
	}{
		{nil, 0, routeOf(nil, nil, 0, 0)},
		{nil, impl.MaxClock, routeOf(nil, nil, 0, impl.MaxClock)},
		{teaStops(), 0, routeOf([]int{0, 1}, []int{5, 17}, 3, 26)},
		{teaStops(), 8, routeOf([]int{0, 1}, []int{13, 25}, 0, 31)}, // at To to the minute
		{teaStops(), 9, routeOf([]int{1, 0}, []int{14, 31}, 6, 38)}, // a minute later the other order is left
		{teaStops(), 20, routeOf([]int{1, 0}, []int{25, 36}, 0, 43)},
		{[]impl.Stop{{}}, 0, routeOf([]int{0}, []int{0}, 0, 0)},
		{[]impl.Stop{stopAt(0, 0, 30, 40, 5)}, 7, routeOf([]int{0}, []int{7}, 23, 35)},
		{[]impl.Stop{openAt(3, 0, 0), openAt(1, 0, 0), openAt(2, 0, 0)}, 0, routeOf([]int{0, 2, 1}, []int{3, 4, 5}, 0, 6)},     // on the way there or back: several are best
		{[]impl.Stop{openAt(3, 0, 0), openAt(-3, 0, 0)}, 5, routeOf([]int{0, 1}, []int{8, 14}, 0, 17)},                         // either way round
		{[]impl.Stop{openAt(2, 2, 1), openAt(2, 2, 1), openAt(2, 2, 1)}, 0, routeOf([]int{0, 1, 2}, []int{4, 5, 6}, 0, 11)},    // at one place
		{[]impl.Stop{openAt(1, 0, 0), {}, openAt(0, 1, 0)}, 0, routeOf([]int{1, 0, 2}, []int{0, 1, 3}, 0, 4)},                  // the second is over at 0
		{[]impl.Stop{stopAt(4, 0, 0, 90, 0), stopAt(4, 0, 10, 90, 0)}, 0, routeOf([]int{0, 1}, []int{4, 4}, 6, 14)},            // the wait is one for both
		{[]impl.Stop{stopAt(4, 0, 10, 90, 0), stopAt(4, 0, 0, 90, 0)}, 0, routeOf([]int{0, 1}, []int{4, 10}, 6, 14)},           // or the other
		{[]impl.Stop{stopAt(4, 0, 10, 90, 0), stopAt(4, 0, 0, 9, 0)}, 0, routeOf([]int{1, 0}, []int{4, 4}, 6, 14)},             // but not behind To
		{[]impl.Stop{stopAt(9, 0, 50, 90, 2), openAt(-9, 0, 3)}, 0, routeOf([]int{1, 0}, []int{9, 30}, 20, 61)},                // the other one while the first is shut
		{[]impl.Stop{openAt(1, 0, 1000), stopAt(0, 1, 0, 2, 1000)}, 0, routeOf([]int{1, 0}, []int{1, 1003}, 0, 2004)},          // whoever shuts first
		{[]impl.Stop{stopAt(1, 0, 0, 1003, 1000), stopAt(0, 1, 0, 2, 1000)}, 0, routeOf([]int{1, 0}, []int{1, 1003}, 0, 2004)}, // and the last at To to the minute
		{[]impl.Stop{openAt(0, 0, 0), openAt(5, 5, 0), openAt(0, 0, 0)}, 3, routeOf([]int{0, 1, 2}, []int{3, 13, 23}, 0, 23)},  // 0, 0 may come first or last
		{slices.Repeat([]impl.Stop{openAt(-1000, 1000, 1000)}, 7), 0, routeOf(numbersUpTo(7), []int{2000, 3000, 4000, 5000, 6000, 7000, 8000}, 0, 11000)},
	} {
		wantBestRoute(t, c.stops, c.begin, c.want, impl.OK)
		if route, code := bestRouteBySearch(c.stops, c.begin); code != impl.OK || !sameRoute(route, c.want) {
			t.Errorf("%v: by a search %v, %d", c, route, code)
		}
	}
}

func TestP21NoRouteKeepsAllWindows(t *testing.T) {
	for _, c := range []struct {
		stops []impl.Stop
		last  int // the latest minute at which there is one; -1: there is none at all
	}{
		{teaStops(), 20},
		{[]impl.Stop{{}}, 0},
		{[]impl.Stop{stopAt(0, 0, 0, impl.MaxClock-1, 0)}, impl.MaxClock - 1},
		{[]impl.Stop{stopAt(3, 4, 0, 6, 0)}, -1},
		{[]impl.Stop{stopAt(3, 4, 0, 7, 0)}, 0},
		{[]impl.Stop{openAt(-1, 0, 0)}, impl.MaxClock - 1},
		{[]impl.Stop{openAt(-1000, 1000, 0)}, impl.MaxClock - 2000},
		{[]impl.Stop{stopAt(5, 0, 0, 9, 0), stopAt(-5, 0, 0, 9, 0)}, -1},   // each alone is in time
		{[]impl.Stop{stopAt(5, 0, 0, 9, 0), stopAt(-5, 0, 0, 15, 0)}, 0},   // at To to the minute
		{[]impl.Stop{stopAt(5, 0, 0, 10, 1), stopAt(-5, 0, 0, 15, 1)}, -1}, // the stay is too long
		{[]impl.Stop{stopAt(0, 0, 9, 9, 0), stopAt(1, 0, 9, 9, 0)}, -1},    // the wait is
		{[]impl.Stop{stopAt(0, 0, 9, 9, 0), stopAt(1, 0, 9, 10, 0)}, 9},
		{[]impl.Stop{openAt(1, 1, 1), openAt(2, 2, 2), stopAt(3, 3, 0, 5, 0), openAt(0, 0, 0)}, -1},
		{append(slices.Repeat([]impl.Stop{openAt(0, 0, 1)}, 6), stopAt(3, 3, 0, 5, 0)), -1},
	} {
		for begin := max(c.last-30, 0); begin <= min(c.last+30, impl.MaxClock); begin++ {
			code := impl.OK
			if begin > c.last {
				code = impl.ErrNone
			}
			if got := wantBestRouteBySearch(t, c.stops, begin); got != code {
				t.Errorf("BestRoute(%v, %d): %d, want %d", c.stops, begin, got, code)
			}
			wantLeastEndByWords(t, c.stops, begin)
		}
	}
}

func TestP21LeastEndsByHand(t *testing.T) {
	far := impl.MaxPlane
	for _, c := range []struct {
		stops       []impl.Stop
		begin, want int
		parts       [3]int
	}{
		{nil, 0, 0, [3]int{0, 0, 0}},
		{nil, 77, 77, [3]int{77, 0, 77}}, // begin makes it
		{nil, impl.MaxClock, impl.MaxClock, [3]int{impl.MaxClock, 0, impl.MaxClock}},
		{[]impl.Stop{{}}, 40, 40, [3]int{40, 40, 40}},
		{[]impl.Stop{{}, stopAt(0, 0, 40, 41, 0)}, 40, 40, [3]int{40, 40, 40}},
		{teaStops(), 0, 26, [3]int{0, 26, 13}}, // one stop alone makes it
		{teaStops(), 14, 27, [3]int{14, 26, 27}},
		{teaStops(), 13, 26, [3]int{13, 26, 26}},    // two parts do
		{teaStops(), 90, 103, [3]int{90, 102, 103}}, // To is not looked at
		{[]impl.Stop{stopAt(3, 4, 0, 0, 1)}, 50, 65, [3]int{50, 65, 65}},
		{[]impl.Stop{openAt(1, 0, 500), openAt(0, 9, 3), openAt(-20, 0, 1)}, 6, 6 + 504 + 40, [3]int{6, 508, 550}}, // the greatest way makes it, from another stop than the greatest Stay
		{[]impl.Stop{openAt(-20, 0, 1), openAt(0, 9, 3), openAt(1, 0, 500)}, 6, 6 + 504 + 40, [3]int{6, 508, 550}},
		{[]impl.Stop{openAt(-7, -8, 0), openAt(7, 8, 0)}, 0, 30, [3]int{0, 30, 30}},
		{[]impl.Stop{stopAt(far, far, impl.MaxClock, impl.MaxClock, 1000), openAt(1, 1, 1000)}, 0, impl.MaxClock + 3000, [3]int{0, impl.MaxClock + 3000, 6000}},
		{slices.Repeat([]impl.Stop{openAt(-far, far, 1000)}, 7), impl.MaxClock, impl.MaxClock + 11000, [3]int{impl.MaxClock, impl.MaxClock + 5000, impl.MaxClock + 11000}},
	} {
		wantLeastEnd(t, c.stops, c.begin, c.want, impl.OK)
		if parts := leastEndByWords(c.stops, c.begin); parts != c.parts {
			t.Errorf("%v: by the words %v", c, parts)
		}
	}
}

func TestBestRoutesThatAreWrong(t *testing.T) {
	wants := func(stops []impl.Stop, begin, code int) {
		t.Helper()
		wantNoBestRoute(t, stops, begin, code)
		wantLeastEnd(t, stops, begin, 0, code)
	}
	for _, wrong := range wrongStops() {
		for _, begin := range append(wrongBegins(), edgeBegins()...) {
			wants([]impl.Stop{wrong}, begin, impl.ErrBad)
			wants(append(teaStops(), wrong), begin, impl.ErrBad)
			wants(append([]impl.Stop{wrong}, teaStops()...), begin, impl.ErrBad)
			wants(append(slices.Repeat([]impl.Stop{{}}, impl.MaxStops-1), wrong), begin, impl.ErrBad)
		}
	}
	for _, begin := range append(wrongBegins(), edgeBegins()...) {
		for _, count := range []int{impl.MaxStops + 1, impl.MaxStops + 2, 100, impl.MaxList} {
			wants(make([]impl.Stop, count), begin, impl.ErrBad)
			wants(slices.Repeat(wrongStops()[:1], count), begin, impl.ErrBad)
		}
		for _, count := range []int{impl.MaxList + 1, 2 * impl.MaxList} {
			wants(make([]impl.Stop, count), begin, impl.ErrLong)
			wants(slices.Repeat(wrongStops()[:1], count), begin, impl.ErrLong)
		}
	}
	for _, begin := range wrongBegins() {
		for _, stops := range [][]impl.Stop{nil, {}, {{}}, teaStops(), {stopAt(9, 9, 0, 0, 0)}, make([]impl.Stop, impl.MaxStops)} {
			wants(stops, begin, impl.ErrRange) // ahead of ErrNone
		}
	}
	for _, begin := range edgeBegins() {
		wantNoBestRoute(t, []impl.Stop{stopAt(9, 9, 0, 0, 0)}, begin, impl.ErrNone)
		wantLeastEnd(t, []impl.Stop{stopAt(9, 9, 0, 0, 0)}, begin, begin+36, impl.OK)
	}
}

func TestP21BestRoutesAtTheEdges(t *testing.T) {
	edges := edgeStops()
	for place, first := range edges {
		for _, other := range edges {
			for _, begin := range edgeBegins() {
				for _, stops := range [][]impl.Stop{{first}, {first, other}, {first, other, edges[(place+5)%len(edges)], first}} {
					wantBestRouteBySearch(t, stops, begin)
					wantLeastEndByWords(t, stops, begin)
				}
			}
		}
	}
	for shift := range edges {
		var stops []impl.Stop
		for place := range impl.MaxStops {
			stops = append(stops, edges[(shift+place*3)%len(edges)])
		}
		wantBestRouteBySearch(t, stops, 0)
		wantLeastEndByWords(t, stops, 0)
		for place := range stops {
			stops[place].From, stops[place].To = min(stops[place].From, 20000), impl.MaxClock
		}
		wantBestRouteBySearch(t, stops, 0)
		wantBestRouteBySearch(t, stops, 70000)
	}
}

// All small stops: one place or several, windows that end at the minute, and several best orders.
func TestP21EverySmallBestRoute(t *testing.T) {
	seen := map[int]int{}
	var all []impl.Stop
	for _, x := range []int{-1, 0, 1} {
		for _, window := range [][2]int{{0, 2}, {0, 9}, {3, 4}, {4, 3}} {
			all = append(all, stopAt(x, 0, window[0], window[1], (x+window[0]+1)%2))
		}
	}
	for count := range 4 {
		eachCounts(count, 0, len(all)-1, func(numbers []int) {
			var stops []impl.Stop
			for _, number := range numbers {
				stops = append(stops, all[number])
			}
			for begin := -1; begin <= 4; begin++ {
				seen[wantBestRouteBySearch(t, stops, begin)]++
				wantLeastEndByWords(t, stops, begin)
			}
		})
	}
	if min(seen[impl.OK], seen[impl.ErrNone], seen[impl.ErrBad], seen[impl.ErrRange]) < 100 {
		t.Error("too few of one code", seen)
	}
}

func TestP21NoRouteIsBackEarlier(t *testing.T) {
	r := fixed()
	seen, atBound := map[int]int{}, 0
	for round := range 3000 {
		begin := r.IntN(300)
		count := r.IntN(6)
		if round%20 == 0 {
			count = impl.MaxStops - r.IntN(2)
		}
		stops := someStops(r, count, begin)
		code := wantBestRouteBySearch(t, stops, begin)
		seen[code]++
		wantLeastEndByWords(t, stops, begin)
		best, _ := impl.BestRoute(stops, begin)
		bound, _ := impl.LeastEnd(stops, begin)
		if code != impl.OK {
			continue
		}
		wantRoute(t, stops, begin, best.Order, best, impl.OK)
		if best.End < bound {
			t.Fatalf("BestRoute(%v, %d) is back at %d, ahead of %d", stops, begin, best.End, bound)
		}
		if best.End == bound {
			atBound++
		}
	}
	if min(seen[impl.OK], seen[impl.ErrNone]) < 300 || min(atBound, seen[impl.OK]-atBound) < 300 {
		t.Error("too few of one kind", seen, atBound)
	}
}

func TestP21LaterEndsAreNoLoss(t *testing.T) {
	r := fixed()
	for range 2000 {
		begin := r.IntN(300)
		stops := someStops(r, r.IntN(impl.MaxStops+1), begin)
		best, code := impl.BestRoute(stops, begin)
		more := r.IntN(60)
		for place := range stops {
			stops[place].To = min(stops[place].To+more, impl.MaxClock)
		}
		after, afterCode := impl.BestRoute(stops, begin)
		if code == impl.OK && (afterCode != impl.OK || after.End > best.End) {
			t.Fatalf("BestRoute(%v, %d) = %v, %d; with To %d less %v", stops, begin, after, afterCode, more, best)
		}
	}
}

// Who begins later is back no earlier; at a begin and windows that are all later by as much, all is later by as much.
func TestP21LaterBegins(t *testing.T) {
	r := fixed()
	for range 2000 {
		begin := r.IntN(300)
		stops := someStops(r, r.IntN(impl.MaxStops+1), begin)
		best, code := impl.BestRoute(stops, begin)
		later, laterCode := impl.BestRoute(stops, begin+1+r.IntN(20))
		if laterCode == impl.OK && (code != impl.OK || later.End < best.End) {
			t.Fatalf("BestRoute(%v, %d) = %v, %d; later %v", stops, begin, best, code, later)
		}
		if slices.ContainsFunc(stops, func(s impl.Stop) bool { return s.To > impl.MaxClock-500 }) {
			continue
		}
		more := r.IntN(500)
		for place := range stops {
			stops[place].From += more
			stops[place].To += more
		}
		if code == impl.OK {
			best.End += more
			for place := range best.Arrives {
				best.Arrives[place] += more
			}
		}
		wantBestRoute(t, stops, begin+more, best, code)
	}
}

// The plane looks alike from each side.
func TestP21MirroredPlanes(t *testing.T) {
	r := fixed()
	for range 500 {
		begin := r.IntN(300)
		stops := someStops(r, r.IntN(impl.MaxStops+1), begin)
		best, code := impl.BestRoute(stops, begin)
		end, _ := impl.LeastEnd(stops, begin)
		for _, turn := range []func(s *impl.Stop){
			func(s *impl.Stop) { s.X = -s.X },
			func(s *impl.Stop) { s.Y = -s.Y },
			func(s *impl.Stop) { s.X, s.Y = s.Y, s.X },
		} {
			for place := range stops {
				turn(&stops[place])
			}
			wantBestRoute(t, stops, begin, best, code)
			wantLeastEnd(t, stops, begin, end, impl.OK)
		}
	}
}

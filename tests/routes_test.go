package tests

import (
	"fmt"
	"math"
	"math/rand/v2"
	"slices"
	"testing"

	"loop.example/g00067/impl"
)

func stopAt(x, y, from, to, stay int) impl.Stop {
	return impl.Stop{X: x, Y: y, From: from, To: to, Stay: stay}
}

// openAt is a stop that is never too early and never too late.
func openAt(x, y, stay int) impl.Stop { return stopAt(x, y, 0, impl.MaxClock, stay) }

// teaStops are right; at 0 the first comes first, at 9 the other must.
func teaStops() []impl.Stop { return []impl.Stop{stopAt(5, 0, 0, 100, 2), stopAt(0, 5, 20, 25, 1)} }

func routeOf(order, arrives []int, waits, end int) impl.Route {
	return impl.Route{Order: order, Arrives: arrives, Waits: waits, End: end}
}

func sameRoute(a, b impl.Route) bool {
	return slices.Equal(a.Order, b.Order) && slices.Equal(a.Arrives, b.Arrives) && a.Waits == b.Waits && a.End == b.End
}

func stopByWords(s impl.Stop) bool {
	switch {
	case s.X < -1000, s.X > 1000, s.Y < -1000, s.Y > 1000:
		return false
	case s.From < 0, s.From > s.To, s.To > 100000:
		return false
	}
	return s.Stay >= 0 && s.Stay <= 1000
}

func stopsByWords(stops []impl.Stop) bool {
	for _, s := range stops {
		if !stopByWords(s) {
			return false
		}
	}
	return len(stops) <= 7
}

func routesCodeByWords(stops []impl.Stop, begin int) int {
	switch {
	case len(stops) > 4096:
		return impl.ErrLong
	case !stopsByWords(stops):
		return impl.ErrBad
	case begin < 0 || begin > 100000:
		return impl.ErrRange
	}
	return impl.OK
}

func farByWords(x, y, toX, toY int) int {
	return max(x, toX) - min(x, toX) + max(y, toY) - min(y, toY)
}

// placesOnce: each place of the stops is in the order once.
func placesOnce(order []int, count int) bool {
	seen := make([]int, count)
	for _, place := range order {
		if place < 0 || place >= count || seen[place] > 0 {
			return false
		}
		seen[place]++
	}
	return len(order) == count
}

// routeByWords reckons a route leg by leg.
func routeByWords(stops []impl.Stop, begin int, order []int) (impl.Route, int) {
	if len(order) > 4096 {
		return impl.Route{}, impl.ErrLong
	}
	if code := routesCodeByWords(stops, begin); code != impl.OK {
		return impl.Route{}, code
	}
	if !placesOnce(order, len(stops)) {
		return impl.Route{}, impl.ErrForm
	}
	route := routeOf(slices.Clone(order), nil, 0, begin)
	x, y := 0, 0
	for _, place := range order {
		s := stops[place]
		route.End += farByWords(x, y, s.X, s.Y)
		if route.End > s.To {
			return impl.Route{}, impl.ErrLate
		}
		route.Arrives = append(route.Arrives, route.End)
		if route.End < s.From {
			route.Waits += s.From - route.End
			route.End = s.From
		}
		route.End += s.Stay
		x, y = s.X, s.Y
	}
	route.End += farByWords(x, y, 0, 0)
	return route, impl.OK
}

// van goes one step a minute.
type van struct{ x, y, minute int }

func (v *van) drive(x, y int) {
	for v.x != x || v.y != y {
		switch {
		case v.x < x:
			v.x++
		case v.x > x:
			v.x--
		case v.y < y:
			v.y++
		default:
			v.y--
		}
		v.minute++
	}
}

// routeByMinutes is of stops, a begin and an order that are right: minute by minute it drives, waits, stays and drives back.
func routeByMinutes(stops []impl.Stop, begin int, order []int) (impl.Route, int) {
	route := routeOf(slices.Clone(order), nil, 0, 0)
	v := van{minute: begin}
	for _, place := range order {
		s := stops[place]
		v.drive(s.X, s.Y)
		if v.minute > s.To {
			return impl.Route{}, impl.ErrLate
		}
		route.Arrives = append(route.Arrives, v.minute)
		for v.minute < s.From {
			v.minute++
			route.Waits++
		}
		for range s.Stay {
			v.minute++
		}
	}
	v.drive(0, 0)
	route.End = v.minute
	return route, impl.OK
}

func wantRoute(t *testing.T, stops []impl.Stop, begin int, order []int, want impl.Route, wantCode int) {
	t.Helper()
	route, code := impl.RouteOf(stops, begin, order)
	if code != wantCode || !sameRoute(route, want) {
		t.Errorf("RouteOf(%.300s, %d, %.300s) = %+v, %d; want %+v, %d", fmt.Sprint(stops), begin, fmt.Sprint(order), route, code, want, wantCode)
	}
}

func wantNoRoute(t *testing.T, stops []impl.Stop, begin int, order []int, code int) {
	t.Helper()
	wantRoute(t, stops, begin, order, impl.Route{}, code)
}

func wantRouteByWords(t *testing.T, stops []impl.Stop, begin int, order []int) int {
	t.Helper()
	want, code := routeByWords(stops, begin, order)
	wantRoute(t, stops, begin, order, want, code)
	return code
}

func wantStopsOK(t *testing.T, stops []impl.Stop, want bool) {
	t.Helper()
	if ok := impl.StopsOK(stops); ok != want {
		t.Errorf("StopsOK(%.300s) = %v", fmt.Sprint(stops), ok)
	}
}

// wrongStops break one rule each, the last ones several.
func wrongStops() []impl.Stop {
	var list []impl.Stop
	for _, n := range []int{math.MinInt, math.MinInt + 1, -impl.MaxPlane - 2, -impl.MaxPlane - 1, impl.MaxPlane + 1, impl.MaxPlane + 2, math.MaxInt - 1, math.MaxInt} {
		list = append(list, stopAt(n, 0, 0, 100, 2), stopAt(0, n, 0, 100, 2))
	}
	for _, n := range []int{math.MinInt, -100, -1, 101, 102, impl.MaxClock, impl.MaxClock + 1, math.MaxInt} {
		list = append(list, stopAt(5, -5, n, 100, 2))
	}
	for _, n := range []int{math.MinInt, -100, -1, 0, 19, impl.MaxClock + 1, impl.MaxClock + 2, math.MaxInt} {
		list = append(list, stopAt(5, -5, 20, n, 2))
	}
	for _, n := range []int{math.MinInt, -impl.MaxAtStop, -1, impl.MaxAtStop + 1, impl.MaxAtStop + 2, math.MaxInt} {
		list = append(list, stopAt(5, -5, 20, 100, n))
	}
	return append(list,
		stopAt(0, 0, 1, 0, 0), stopAt(0, 0, -1, -1, 0), stopAt(0, 0, -2, -1, 0), stopAt(0, 0, impl.MaxClock+1, impl.MaxClock+1, 0), stopAt(0, 0, math.MaxInt, math.MaxInt, 0), stopAt(0, 0, math.MinInt, math.MaxInt, 0),
		stopAt(-1001, 1001, 2, 1, -1), stopAt(math.MinInt, math.MinInt, math.MinInt, math.MinInt, math.MinInt), stopAt(math.MaxInt, math.MaxInt, math.MaxInt, math.MaxInt, math.MaxInt))
}

// edgeStops are right, each with a number at an edge.
func edgeStops() []impl.Stop {
	return []impl.Stop{
		{}, stopAt(-impl.MaxPlane, 0, 0, impl.MaxClock, 0), stopAt(impl.MaxPlane, 0, 0, impl.MaxClock, 0), stopAt(0, -impl.MaxPlane, 0, impl.MaxClock, 0), stopAt(0, impl.MaxPlane, 0, impl.MaxClock, 0),
		stopAt(-impl.MaxPlane, -impl.MaxPlane, 0, impl.MaxClock, impl.MaxAtStop), stopAt(impl.MaxPlane, impl.MaxPlane, 0, impl.MaxClock, impl.MaxAtStop), stopAt(impl.MaxPlane, -impl.MaxPlane, impl.MaxClock, impl.MaxClock, impl.MaxAtStop),
		stopAt(3, 4, 50, 50, 0), stopAt(3, 4, 0, 0, 0), stopAt(0, 0, 0, 0, impl.MaxAtStop), stopAt(0, 0, impl.MaxClock, impl.MaxClock, 0), stopAt(3, 4, 99, 100, 1), stopAt(0, 0, 0, impl.MaxClock, 999),
	}
}

func wrongBegins() []int {
	return []int{math.MinInt, math.MinInt + 1, -impl.MaxClock, -2, -1, impl.MaxClock + 1, impl.MaxClock + 2, math.MaxInt - 1, math.MaxInt}
}

func edgeBegins() []int { return []int{0, 1, impl.MaxClock - 1, impl.MaxClock} }

// someStops lie near or far; of their windows some are wide, others end at the very minute of some route, or a minute ahead of it.
func someStops(r *rand.Rand, count, begin int) []impl.Stop {
	plane := []int{2, 5, 40, impl.MaxPlane}[r.IntN(4)]
	stay := []int{0, 3, 40}[r.IntN(3)]
	tight := r.IntN(3)
	var stops []impl.Stop
	minute, x, y := begin, 0, 0
	for range count {
		s := openAt(r.IntN(2*plane+1)-plane, r.IntN(2*plane+1)-plane, r.IntN(stay+1))
		if len(stops) > 0 && r.IntN(6) == 0 {
			s.X, s.Y = x, y
		}
		minute += farByWords(x, y, s.X, s.Y)
		switch r.IntN(3) * tight {
		case 1:
			s.From = minute + r.IntN(plane)
			s.To = s.From
		case 2:
			s.To = max(minute+r.IntN(2)-r.IntN(3), 0)
			s.From = r.IntN(s.To + 1)
		case 3, 4:
			s.From = max(minute-r.IntN(plane), 0)
			s.To = minute + r.IntN(8*plane)
		}
		s.To = max(min(s.To, impl.MaxClock), 0)
		s.From = min(s.From, s.To)
		minute = max(minute, s.From) + s.Stay
		x, y = s.X, s.Y
		stops = append(stops, s)
	}
	r.Shuffle(len(stops), func(i, j int) { stops[i], stops[j] = stops[j], stops[i] })
	return stops
}

func someOrder(r *rand.Rand, count int) []int { return r.Perm(count) }

func TestP21StopsOKByEachRule(t *testing.T) {
	wantStopsOK(t, nil, true)
	wantStopsOK(t, []impl.Stop{}, true)
	for _, s := range edgeStops() {
		wantStopsOK(t, []impl.Stop{s}, true)
		for count := range impl.MaxStops + 3 {
			wantStopsOK(t, slices.Repeat([]impl.Stop{s}, count), count <= impl.MaxStops)
		}
	}
	for _, wrong := range wrongStops() {
		for count := 1; count <= impl.MaxStops+1; count++ {
			for place := range count {
				stops := slices.Repeat([]impl.Stop{stopAt(5, 0, 0, 100, 2)}, count)
				wantStopsOK(t, stops, count <= impl.MaxStops)
				stops[place] = wrong
				wantStopsOK(t, stops, false)
			}
		}
	}
	for _, count := range []int{impl.MaxStops + 1, 100, impl.MaxList, impl.MaxList + 1, 3 * impl.MaxList} {
		wantStopsOK(t, make([]impl.Stop, count), false)
	}
}

func TestP21StopsOKOfNumbersAboutTheEdges(t *testing.T) {
	seen := map[bool]int{}
	for _, x := range []int{-1001, -1000, 0, 1000, 1001} {
		for _, y := range []int{-1001, -1000, 0, 1000, 1001} {
			for _, from := range []int{-1, 0, 1, 99999, 100000, 100001} {
				for _, to := range []int{-1, 0, 1, 99999, 100000, 100001} {
					for _, stay := range []int{-1, 0, 1000, 1001} {
						s := stopAt(x, y, from, to, stay)
						wantStopsOK(t, []impl.Stop{s}, stopByWords(s))
						seen[stopByWords(s)]++
					}
				}
			}
		}
	}
	if min(seen[true], seen[false]) < 100 {
		t.Error("too few of one kind", seen)
	}
}

func TestP21RoutesByHand(t *testing.T) {
	far := impl.MaxPlane
	for _, c := range []struct {
		stops []impl.Stop
		begin int
		want  impl.Route
	}{
		{nil, 0, routeOf(nil, nil, 0, 0)},
		{nil, 77, routeOf(nil, nil, 0, 77)},
		{nil, impl.MaxClock, routeOf(nil, nil, 0, impl.MaxClock)},
		{teaStops(), 0, routeOf([]int{1, 0}, []int{5, 31}, 15, 38)},
		{teaStops(), 0, routeOf([]int{0, 1}, []int{5, 17}, 3, 26)},
		{teaStops(), 8, routeOf([]int{0, 1}, []int{13, 25}, 0, 31)}, // at To to the minute
		{teaStops(), 20, routeOf([]int{1, 0}, []int{25, 36}, 0, 43)},
		{[]impl.Stop{stopAt(3, -4, 10, 20, 2)}, 0, routeOf([]int{0}, []int{7}, 3, 19)},  // ahead of From
		{[]impl.Stop{stopAt(3, -4, 10, 20, 2)}, 2, routeOf([]int{0}, []int{9}, 1, 19)},  // a minute ahead of it
		{[]impl.Stop{stopAt(3, -4, 10, 20, 2)}, 3, routeOf([]int{0}, []int{10}, 0, 19)}, // at From
		{[]impl.Stop{stopAt(3, -4, 10, 20, 2)}, 4, routeOf([]int{0}, []int{11}, 0, 20)}, // behind it
		{[]impl.Stop{stopAt(3, -4, 10, 20, 2)}, 13, routeOf([]int{0}, []int{20}, 0, 29)},
		{[]impl.Stop{stopAt(3, -4, 20, 20, 0)}, 0, routeOf([]int{0}, []int{7}, 13, 27)},
		{[]impl.Stop{{}}, 0, routeOf([]int{0}, []int{0}, 0, 0)}, // at 0, 0
		{[]impl.Stop{openAt(0, 0, 5)}, 9, routeOf([]int{0}, []int{9}, 0, 14)},
		{[]impl.Stop{stopAt(0, 0, 50, 60, 5)}, 9, routeOf([]int{0}, []int{9}, 41, 55)},
		{[]impl.Stop{openAt(0, 0, 5), openAt(2, 2, 1)}, 0, routeOf([]int{1, 0}, []int{4, 9}, 0, 14)},
		{[]impl.Stop{openAt(2, 2, 5), openAt(2, 2, 1), openAt(2, 2, 0)}, 1, routeOf([]int{2, 0, 1}, []int{5, 5, 10}, 0, 15)}, // at one place
		{[]impl.Stop{stopAt(2, 2, 8, 9, 5), stopAt(2, 2, 30, 31, 1)}, 1, routeOf([]int{0, 1}, []int{5, 13}, 3+17, 35)},       // two waits
		{[]impl.Stop{openAt(-far, far, 1000)}, impl.MaxClock - 2000, routeOf([]int{0}, []int{impl.MaxClock}, 0, impl.MaxClock+3000)},
		{[]impl.Stop{stopAt(0, 0, impl.MaxClock, impl.MaxClock, 1000)}, 0, routeOf([]int{0}, []int{0}, impl.MaxClock, impl.MaxClock+1000)},
		{[]impl.Stop{openAt(-far, -far, 0), openAt(far, far, 0)}, 0, routeOf([]int{1, 0}, []int{2000, 6000}, 0, 8000)},
	} {
		wantRoute(t, c.stops, c.begin, c.want.Order, c.want, impl.OK)
		if route, code := routeByWords(c.stops, c.begin, c.want.Order); code != impl.OK || !sameRoute(route, c.want) {
			t.Errorf("%v: by the words %v, %d", c, route, code)
		}
		if route, code := routeByMinutes(c.stops, c.begin, c.want.Order); code != impl.OK || !sameRoute(route, c.want) {
			t.Errorf("%v: by minutes %v, %d", c, route, code)
		}
	}
}

// A window ends at the minute: at To it is in time, one minute later no more.
func TestP21RoutesThatAreLate(t *testing.T) {
	for _, c := range []struct {
		stops []impl.Stop
		last  int // the latest minute to begin
		order []int
	}{
		{teaStops(), 8, []int{0, 1}},
		{teaStops(), 20, []int{1, 0}},
		{[]impl.Stop{stopAt(3, -4, 10, 20, 2)}, 13, []int{0}},
		{[]impl.Stop{stopAt(3, -4, 7, 7, 2)}, 0, []int{0}},
		{[]impl.Stop{{}}, 0, []int{0}},
		{[]impl.Stop{stopAt(0, 0, 0, 40, 9)}, 40, []int{0}},
		{[]impl.Stop{stopAt(0, 0, 40, 40, 9)}, 40, []int{0}},
		{[]impl.Stop{openAt(1, 0, 0)}, impl.MaxClock - 1, []int{0}},
		{[]impl.Stop{openAt(-1000, 1000, 0)}, impl.MaxClock - 2000, []int{0}},
		{[]impl.Stop{openAt(2, 2, 5), stopAt(2, 2, 0, 30, 1), openAt(1, 0, 3)}, 18, []int{2, 0, 1}},                // 1 on the way, a stay of 3, 3 on the way, a stay of 5
		{[]impl.Stop{stopAt(2, 0, 0, 30, 0), stopAt(2, 0, 0, 29, 0)}, 27, []int{0, 1}},                             // the one behind ends first
		{[]impl.Stop{stopAt(1, 0, 10, 50, 5), stopAt(2, 0, 0, 16, 0), stopAt(9, 9, 90, 99, 0)}, 9, []int{0, 1, 2}}, // it waits until 10, and is there at 16 for any begin until 9
	} {
		for begin := max(c.last-5, 0); begin <= min(c.last+5, impl.MaxClock); begin++ {
			code := impl.OK
			if begin > c.last {
				code = impl.ErrLate
			}
			if got := wantRouteByWords(t, c.stops, begin, c.order); got != code {
				t.Errorf("RouteOf(%v, %d, %v): %d, want %d", c.stops, begin, c.order, got, code)
			}
		}
	}
}

// Each stop of a long route is made the one that is late, by a minute.
func TestP21RoutesLateAtEachStop(t *testing.T) {
	r := fixed()
	for range 400 {
		begin := r.IntN(1000)
		stops := someStops(r, 1+r.IntN(impl.MaxStops), begin)
		for place := range stops {
			stops[place].To = impl.MaxClock
		}
		order := someOrder(r, len(stops))
		route, code := impl.RouteOf(stops, begin, order)
		if code != impl.OK {
			t.Fatalf("RouteOf(%v, %d, %v): %d", stops, begin, order, code)
		}
		for at, place := range order {
			narrow := slices.Clone(stops)
			narrow[place].From = min(narrow[place].From, route.Arrives[at])
			narrow[place].To = route.Arrives[at]
			wantRouteByWords(t, narrow, begin, order)
			if _, code := impl.RouteOf(narrow, begin, order); code != impl.OK {
				t.Fatalf("RouteOf(%v, %d, %v): %d at the minute", narrow, begin, order, code)
			}
			if route.Arrives[at] == 0 {
				continue
			}
			narrow[place].To--
			narrow[place].From = min(narrow[place].From, narrow[place].To)
			wantNoRoute(t, narrow, begin, order, impl.ErrLate)
		}
	}
}

func TestRoutesThatAreWrong(t *testing.T) {
	for _, wrong := range wrongStops() {
		wantNoRoute(t, []impl.Stop{wrong}, 0, []int{0}, impl.ErrBad)
		for place := range 3 {
			stops := []impl.Stop{openAt(1, 1, 1), openAt(2, 2, 2), openAt(3, 3, 3)}
			stops[place] = wrong
			wantNoRoute(t, stops, 0, []int{0, 1, 2}, impl.ErrBad)
			wantNoRoute(t, stops, impl.MaxClock, []int{2, 1, 0}, impl.ErrBad)
		}
	}
	for _, count := range []int{impl.MaxStops + 1, impl.MaxStops + 2, 100, impl.MaxList} {
		wantNoRoute(t, make([]impl.Stop, count), 0, numbersUpTo(count), impl.ErrBad)
	}
	for _, begin := range wrongBegins() {
		wantNoRoute(t, nil, begin, nil, impl.ErrRange)
		wantNoRoute(t, []impl.Stop{{}}, begin, []int{0}, impl.ErrRange)
		wantNoRoute(t, teaStops(), begin, []int{0, 1}, impl.ErrRange)
	}
	for count := range impl.MaxStops + 1 {
		for _, order := range ordersThatFitNot(count) {
			wantNoRoute(t, slices.Repeat([]impl.Stop{openAt(1, 1, 1)}, count), 0, order, impl.ErrForm)
		}
	}
}

func TestRoutesWhichFaultComesFirst(t *testing.T) {
	wrong := [][]impl.Stop{make([]impl.Stop, impl.MaxStops+1), make([]impl.Stop, impl.MaxList), {wrongStops()[0]}, {{}, {}, wrongStops()[20]}}
	orders := append(ordersThatFitNot(3), []int{0, 1, 2}, nil)
	for _, begin := range append(wrongBegins(), edgeBegins()...) {
		for _, order := range orders {
			for _, stops := range wrong {
				wantNoRoute(t, stops, begin, order, impl.ErrBad)
			}
			for _, count := range []int{impl.MaxList + 1, 2 * impl.MaxList} {
				wantNoRoute(t, make([]impl.Stop, count), begin, order, impl.ErrLong)
			}
		}
		for _, stops := range append(wrong, nil, teaStops(), make([]impl.Stop, impl.MaxList+1)) {
			wantNoRoute(t, stops, begin, alike(0, impl.MaxList+1), impl.ErrLong)
			wantNoRoute(t, stops, begin, numbersUpTo(2*impl.MaxList), impl.ErrLong)
		}
	}
	late := []impl.Stop{stopAt(5, 5, 0, 1, 0), openAt(1, 1, 1), stopAt(9, 9, 0, 0, 0)} // in no order in time
	for _, order := range ordersThatFitNot(3) {
		for _, begin := range wrongBegins() {
			wantNoRoute(t, late, begin, order, impl.ErrRange)
		}
		for _, begin := range edgeBegins() {
			wantNoRoute(t, late, begin, order, impl.ErrForm)
		}
	}
	eachOrder(3, func(order []int) {
		for _, begin := range edgeBegins() {
			wantNoRoute(t, late, begin, order, impl.ErrLate)
		}
		for _, begin := range wrongBegins() {
			wantNoRoute(t, late, begin, order, impl.ErrRange)
		}
	})
}

func TestP21RoutesAtTheEdges(t *testing.T) {
	for _, first := range edgeStops() {
		for _, other := range edgeStops() {
			for _, begin := range edgeBegins() {
				for _, stops := range [][]impl.Stop{{first, other}, {first, first, other, other, first, other, first}} {
					wantRouteByWords(t, stops, begin, numbersUpTo(len(stops)))
					backwards := numbersUpTo(len(stops))
					slices.Reverse(backwards)
					wantRouteByWords(t, stops, begin, backwards)
				}
			}
		}
	}
	corners := []impl.Stop{openAt(-1000, -1000, 1000), openAt(1000, 1000, 1000), openAt(-1000, -1000, 1000), openAt(1000, 1000, 1000), openAt(-1000, -1000, 1000), openAt(1000, 1000, 1000), openAt(-1000, -1000, 1000)}
	wantRoute(t, corners, 0, numbersUpTo(7), routeOf(numbersUpTo(7), []int{2000, 7000, 12000, 17000, 22000, 27000, 32000}, 0, 35000), impl.OK)
	wantRoute(t, corners, impl.MaxClock-32000, numbersUpTo(7), routeOf(numbersUpTo(7), []int{70000, 75000, 80000, 85000, 90000, 95000, 100000}, 0, 103000), impl.OK)
	wantNoRoute(t, corners, impl.MaxClock-31999, numbersUpTo(7), impl.ErrLate)
}

// All small stops in all orders, orders that are none of theirs among them.
func TestP21EverySmallRoute(t *testing.T) {
	seen := map[int]int{}
	var all []impl.Stop
	for _, x := range []int{-1, 0, 2} {
		for _, from := range []int{-1, 0, 2} {
			for _, to := range []int{1, 3, 6} {
				all = append(all, stopAt(x, 1, from, to, (x+from+3)%3))
			}
		}
	}
	for count := range 3 {
		eachCounts(count, 0, len(all)-1, func(numbers []int) {
			var stops []impl.Stop
			for _, number := range numbers {
				stops = append(stops, all[number])
			}
			for begin := -1; begin <= 4; begin++ {
				eachCounts(count, -1, count, func(order []int) {
					seen[wantRouteByWords(t, stops, begin, order)]++
				})
			}
		})
	}
	if min(seen[impl.OK], seen[impl.ErrForm], seen[impl.ErrBad], seen[impl.ErrRange], seen[impl.ErrLate]) < 100 {
		t.Error("too few of one code", seen)
	}
}

func TestP21RoutesAgainstAWalkByMinutes(t *testing.T) {
	r := fixed()
	seen := map[int]int{}
	for range 4000 {
		begin := r.IntN(300)
		if r.IntN(20) == 0 {
			begin = impl.MaxClock - r.IntN(300)
		}
		stops := someStops(r, r.IntN(impl.MaxStops+1), begin)
		order := someOrder(r, len(stops))
		want, code := routeByMinutes(stops, begin, order)
		wantRoute(t, stops, begin, order, want, code)
		wantRouteByWords(t, stops, begin, order)
		seen[code]++
	}
	if min(seen[impl.OK], seen[impl.ErrLate]) < 500 {
		t.Error("too few of one code", seen)
	}
}

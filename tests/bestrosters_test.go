package tests

import (
	"fmt"
	"math"
	"runtime"
	"slices"
	"sync"
	"testing"
	"time"

	"loop.example/g00067/impl"
)

// bestRosterBySearch looks at all lists from the least on; the first of those that cost least is the least.
func bestRosterBySearch(shifts []impl.Shift, workers []impl.Worker) (impl.Roster, int) {
	if code := rosterCodeByWords(shifts, workers); code != impl.OK {
		return impl.Roster{}, code
	}
	best, bestCode := impl.Roster{Cost: math.MaxInt}, impl.ErrNone
	if len(workers) > 0 || len(shifts) == 0 { // else there is no list of theirs
		eachCounts(len(shifts), 0, len(workers)-1, func(who []int) {
			if roster, code, _ := rosterByWords(shifts, workers, who); code == impl.OK && roster.Cost < best.Cost {
				best, bestCode = roster, impl.OK
			}
		})
	}
	if bestCode != impl.OK {
		return impl.Roster{}, bestCode
	}
	return best, impl.OK
}

func wantBestRoster(t *testing.T, shifts []impl.Shift, workers []impl.Worker, want impl.Roster, wantCode int) {
	t.Helper()
	roster, code := impl.BestRoster(shifts, workers)
	if code != wantCode || !sameRoster(roster, want) {
		t.Errorf("BestRoster(%.300s, %.300s) = %+v, %d; want %+v, %d", fmt.Sprint(shifts), fmt.Sprint(workers), roster, code, want, wantCode)
	}
}

func wantNoBestRoster(t *testing.T, shifts []impl.Shift, workers []impl.Worker, code int) {
	t.Helper()
	wantBestRoster(t, shifts, workers, impl.Roster{}, code)
}

func wantBestRosterBySearch(t *testing.T, shifts []impl.Shift, workers []impl.Worker) int {
	t.Helper()
	want, code := bestRosterBySearch(shifts, workers)
	wantBestRoster(t, shifts, workers, want, code)
	return code
}

// handRoster is a list of shifts and workers, and the best roster of them.
type handRoster struct {
	shifts  []impl.Shift
	workers []impl.Worker
	want    impl.Roster
}

func handRosters() []handRoster {
	week := impl.MaxWeek
	atOnce := func(count int) []impl.Shift { return slices.Repeat([]impl.Shift{shiftAt(0, 10, "till")}, count) }
	return []handRoster{
		{nil, nil, rosterOf(0)},
		{nil, teaWorkers(), rosterOf(0)},
		{nil, freeWorkers(impl.MaxWorkers), rosterOf(0)},
		{teaShifts()[:1], teaWorkers(), rosterOf(300, 0)},
		{teaShifts()[:2], teaWorkers(), rosterOf(60*5+30*7, 0, 1)}, // ann has not rested
		{teaShifts(), teaWorkers(), rosterOf(60*5+30*7+60*7, 0, 1, 1)},
		{teaShifts()[1:], teaWorkers(), rosterOf(30*5+60*7, 0, 1)},
		{apartShifts(1), freeWorkers(5), rosterOf(10, 0)}, // several are best: the least list
		{apartShifts(8), freeWorkers(5), rosterOf(80, alike(0, 8)...)},
		{apartShifts(8), []impl.Worker{free("a", 0), free("b", 0)}, rosterOf(0, alike(0, 8)...)},
		{apartShifts(8), []impl.Worker{free("a", 2), free("b", 1), free("c", 1)}, rosterOf(80, alike(1, 8)...)},
		{apartShifts(3), []impl.Worker{free("a", 5), free("b", 4), free("c", 3), free("d", 2), free("e", 1)}, rosterOf(30, 4, 4, 4)}, // the last first worker is best
		{atOnce(5), freeWorkers(5), rosterOf(50, 0, 1, 2, 3, 4)},
		{atOnce(2), []impl.Worker{free("a", 9), free("b", 1), free("c", 1)}, rosterOf(20, 1, 2)},
		{atOnce(3), []impl.Worker{free("a", 9), free("b", 1), free("c", 1)}, rosterOf(110, 0, 1, 2)},
		{apartShifts(3), []impl.Worker{workerOf("a", 20, 0, 1, "till"), free("b", 2)}, rosterOf(40, 0, 0, 1)}, // the cheap one has too few minutes: three lists are as good
		{apartShifts(3), []impl.Worker{free("b", 2), workerOf("a", 20, 0, 1, "till")}, rosterOf(40, 0, 1, 1)},
		{apartShifts(3), []impl.Worker{workerOf("a", week, 11, 1, "till"), free("b", 2)}, rosterOf(40, 0, 1, 0)},                           // or too long a rest
		{[]impl.Shift{shiftAt(0, 10, "till"), shiftAt(5, 105, "till")}, []impl.Worker{free("a", 1), free("b", 9)}, rosterOf(100+90, 1, 0)}, // what is cheapest at first is not in the end
		{[]impl.Shift{shiftAt(0, 10, "till"), shiftAt(20, 120, "till")}, []impl.Worker{workerOf("a", 100, 0, 1, "till"), free("b", 9)}, rosterOf(190, 1, 0)},
		{[]impl.Shift{shiftAt(0, 10, "till"), shiftAt(0, 10, "bread")}, []impl.Worker{workerOf("a", 10, 0, 1, "till", "bread"), free("b", 1)}, rosterOf(20, 1, 0)}, // who alone can bake
		{[]impl.Shift{shiftAt(0, week, "till")}, []impl.Worker{free("a", 1000)}, rosterOf(10080000, 0)},
		{slices.Repeat([]impl.Shift{shiftAt(0, week, "till")}, 2), []impl.Worker{free("a", 1000), free("b", 0), free("c", 1000)}, rosterOf(10080000, 0, 1)},
	}
}

func TestP22BestRostersByHand(t *testing.T) {
	for _, c := range handRosters() {
		wantBestRoster(t, c.shifts, c.workers, c.want, impl.OK)
		wantRoster(t, c.shifts, c.workers, c.want.Who, c.want, impl.OK, 0)
		if roster, code := bestRosterBySearch(c.shifts, c.workers); code != impl.OK || !sameRoster(roster, c.want) {
			t.Errorf("%v: by a search %v, %d", c, roster, code)
		}
	}
}

func TestP22NoListGoes(t *testing.T) {
	long := []impl.Shift{shiftAt(0, 10, "till"), shiftAt(10, 20, "till")}
	for _, c := range []struct {
		shifts  []impl.Shift
		workers []impl.Worker
	}{
		{apartShifts(1), nil}, // no workers
		{apartShifts(8), nil},
		{apartShifts(1), []impl.Worker{workerOf("a", 10, 0, 1)}},
		{apartShifts(1), []impl.Worker{workerOf("a", 10, 0, 1, "bread"), workerOf("b", 10, 0, 1, "Till")}},
		{apartShifts(1), []impl.Worker{workerOf("a", 9, 0, 1, "till"), workerOf("b", 0, 0, 1, "till")}},
		{slices.Repeat([]impl.Shift{shiftAt(0, 10, "till")}, 6), freeWorkers(5)}, // one too many at once
		{slices.Repeat([]impl.Shift{shiftAt(0, 10, "till")}, 8), freeWorkers(5)},
		{append(apartShifts(7), shiftAt(500, 501, "bread")), freeWorkers(5)},              // the last one is nobody's
		{append([]impl.Shift{shiftAt(0, 1, "bread")}, apartShifts(7)...), freeWorkers(5)}, // the first one is
		{long, []impl.Worker{workerOf("a", 20, 1, 1, "till")}},
		{long, []impl.Worker{workerOf("a", 19, 0, 1, "till")}},
		{long, []impl.Worker{workerOf("a", 19, 0, 1, "till"), workerOf("b", 9, 0, 1, "till"), workerOf("c", 99, 0, 1, "bread")}},
		{apartShifts(8), []impl.Worker{workerOf("a", 30, 0, 1, "till"), workerOf("b", 49, 0, 1, "till")}}, // together they have the minutes of seven
	} {
		wantNoBestRoster(t, c.shifts, c.workers, impl.ErrNone)
		if roster, code := bestRosterBySearch(c.shifts, c.workers); code != impl.ErrNone {
			t.Errorf("%v: by a search %v, %d", c, roster, code)
		}
	}
	wantBestRoster(t, apartShifts(8), []impl.Worker{workerOf("a", 30, 0, 1, "till"), workerOf("b", 50, 0, 1, "till")}, rosterOf(80, 0, 0, 0, 1, 1, 1, 1, 1), impl.OK)
}

// Each worker in turn is the only one with whom, as the first, there is a roster, or the one with whom there is the best.
func TestP22EachFirstWorkerIsTried(t *testing.T) {
	for count := 1; count <= impl.MaxWorkers; count++ {
		for first := range count {
			shifts := append([]impl.Shift{shiftAt(0, 1, "bread")}, apartShifts(impl.MaxShifts)[1:]...)
			workers := freeWorkers(count)
			workers[first].Skills = []string{"bread"}
			if count == 1 {
				workers[first].Skills = []string{"till", "bread"}
			}
			other := (first + 1) % count
			for number := range workers {
				if workers[number].Cost = 3; number == other {
					workers[number].Cost = 2
				}
			}
			who := alike(other, impl.MaxShifts)
			who[0] = first
			want := rosterOf(workers[first].Cost+2*70, who...)
			wantBestRoster(t, shifts, workers, want, impl.OK)

			shifts, workers = apartShifts(impl.MaxShifts), freeWorkers(count)
			for number := range workers {
				if number != first {
					workers[number].Cost = 2
				}
			}
			wantBestRoster(t, shifts, workers, rosterOf(80, alike(first, impl.MaxShifts)...), impl.OK)
		}
	}
}

func TestBestRostersThatAreWrong(t *testing.T) {
	for _, workers := range [][]impl.Worker{nil, teaWorkers(), freeWorkers(impl.MaxWorkers)} {
		for _, wrong := range wrongShifts() {
			wantNoBestRoster(t, []impl.Shift{wrong}, workers, impl.ErrBad)
			wantNoBestRoster(t, append(teaShifts(), wrong), workers, impl.ErrBad)
			wantNoBestRoster(t, append([]impl.Shift{wrong}, teaShifts()...), workers, impl.ErrBad)
		}
		wantNoBestRoster(t, []impl.Shift{shiftAt(1, 2, "till"), shiftAt(0, 1, "till")}, workers, impl.ErrBad)
		for _, count := range []int{impl.MaxShifts + 1, impl.MaxShifts + 2, 100, impl.MaxList} {
			wantNoBestRoster(t, make([]impl.Shift, count), workers, impl.ErrBad)
			wantNoBestRoster(t, slices.Repeat([]impl.Shift{shiftAt(0, 1, "till")}, count), workers, impl.ErrBad)
		}
		for _, count := range []int{impl.MaxList + 1, 2 * impl.MaxList} {
			wantNoBestRoster(t, make([]impl.Shift, count), workers, impl.ErrLong)
			wantNoBestRoster(t, slices.Repeat([]impl.Shift{shiftAt(0, 1, "till")}, count), workers, impl.ErrLong)
			wantNoBestRoster(t, make([]impl.Shift, count), freeWorkers(count), impl.ErrLong)
		}
	}
	for _, shifts := range [][]impl.Shift{nil, teaShifts(), {shiftAt(0, 1, "wine")}, {wrongShifts()[0]}, make([]impl.Shift, impl.MaxList)} {
		for _, wrong := range wrongWorkers() {
			wantNoBestRoster(t, shifts, []impl.Worker{wrong}, impl.ErrBad) // ahead of ErrNone
			wantNoBestRoster(t, shifts, append(teaWorkers(), wrong), impl.ErrBad)
			wantNoBestRoster(t, shifts, append([]impl.Worker{wrong}, teaWorkers()...), impl.ErrBad)
		}
		wantNoBestRoster(t, shifts, []impl.Worker{free("a", 1), free("b", 1), free("a", 2)}, impl.ErrBad)
		for _, count := range []int{impl.MaxWorkers + 1, impl.MaxWorkers + 2, 100, impl.MaxList} {
			wantNoBestRoster(t, shifts, make([]impl.Worker, count), impl.ErrBad)
			wantNoBestRoster(t, shifts, freeWorkers(count), impl.ErrBad)
		}
		for _, count := range []int{impl.MaxList + 1, 2 * impl.MaxList} {
			wantNoBestRoster(t, shifts, make([]impl.Worker, count), impl.ErrLong)
			wantNoBestRoster(t, shifts, freeWorkers(count), impl.ErrLong)
		}
	}
}

func TestP22BestRostersAtTheEdges(t *testing.T) {
	edges, crew := edgeShifts(), edgeWorkers()
	for _, first := range edges {
		for _, other := range edges {
			for at := range crew {
				workers := []impl.Worker{crew[at], crew[(at+3)%len(crew)], crew[(at+7)%len(crew)]}
				for count := range len(workers) + 1 {
					wantBestRosterBySearch(t, []impl.Shift{first}, workers[:count])
					wantBestRosterBySearch(t, []impl.Shift{first, other}, workers[:count])
					wantBestRosterBySearch(t, []impl.Shift{first, first, other}, workers[:count])
				}
			}
		}
	}
	for at := range crew {
		workers := append(slices.Clone(crew[at:]), crew[:at]...)[:impl.MaxWorkers]
		wantBestRosterBySearch(t, edges[:5], workers)
		wantBestRosterBySearch(t, edges[4:], workers)
	}
}

// As many shifts and workers as there may be, with minutes that are scarce or not.
func TestP22TheGreatestRosters(t *testing.T) {
	for _, costs := range [][]int{{1, 1, 1, 1, 1}, {5, 4, 3, 2, 1}, {0, 0, 0, 0, 0}, {7, 1000, 7, 999, 7}} {
		for _, most := range []int{20, 80} {
			workers := freeWorkers(impl.MaxWorkers)
			for number := range workers {
				workers[number].Cost, workers[number].Most, workers[number].Rest = costs[number], most, 10*(number%3)
			}
			wantBestRosterBySearch(t, apartShifts(impl.MaxShifts), workers)
		}
	}
}

// All lists of at most three small shifts, of at most three workers of several kinds.
func TestP22EverySmallBestRoster(t *testing.T) {
	seen := map[int]int{}
	all := []impl.Shift{shiftAt(0, 1, "t"), shiftAt(0, 2, "u"), shiftAt(1, 2, "u"), shiftAt(1, 3, "t"), shiftAt(3, 5, "t"), shiftAt(4, 4, "t")}
	var crew []impl.Worker
	for _, most := range []int{1, 3} {
		for _, rest := range []int{0, 1} {
			for cost := range 2 {
				crew = append(crew, workerOf("", most, rest, cost+most%3, []string{"t", "u"}[:1+(rest+cost)%2]...))
			}
		}
	}
	for count := range 4 {
		eachCounts(count, 0, len(all)-1, func(places []int) {
			var shifts []impl.Shift
			for _, place := range places {
				shifts = append(shifts, all[place])
			}
			for hands := range 4 {
				eachCounts(hands, 0, len(crew)-1, func(kinds []int) {
					var workers []impl.Worker
					for number, kind := range kinds {
						workers = append(workers, crew[kind])
						workers[number].Name = fmt.Sprint("n", number)
					}
					seen[wantBestRosterBySearch(t, shifts, workers)]++
				})
			}
		})
	}
	if min(seen[impl.OK], seen[impl.ErrNone], seen[impl.ErrBad]) < 100 {
		t.Error("too few of one code", seen)
	}
}

func TestP22NoRosterCostsLess(t *testing.T) {
	r := fixed()
	seen, several := map[int]int{}, 0
	for round := range 2500 {
		shifts, workers := someShifts(r, r.IntN(6)), someWorkers(r, r.IntN(impl.MaxWorkers+1))
		if round%250 == 0 {
			shifts, workers = someShifts(r, impl.MaxShifts), someWorkers(r, impl.MaxWorkers)
		}
		code := wantBestRosterBySearch(t, shifts, workers)
		seen[code]++
		if code != impl.OK {
			continue
		}
		best, _ := impl.BestRoster(shifts, workers)
		roster, code, _ := impl.RosterOf(shifts, workers, best.Who)
		if code != impl.OK || !sameRoster(roster, best) {
			t.Fatalf("%s = %v, %d, but BestRoster %v", rosterSaid(shifts, workers, best.Who), roster, code, best)
		}
		if len(workers) > 0 && len(shifts) < impl.MaxShifts { // any other list costs as much or more
			eachCounts(len(shifts), 0, len(workers)-1, func(who []int) {
				other, code, _ := impl.RosterOf(shifts, workers, who)
				if code == impl.OK && other.Cost < best.Cost {
					t.Fatalf("BestRoster(%v, %v) = %v, but %v costs less", shifts, workers, best, other)
				}
				if code == impl.OK && other.Cost == best.Cost && !slices.Equal(who, best.Who) {
					several++
				}
			})
		}
	}
	if min(seen[impl.OK], seen[impl.ErrNone], several) < 300 {
		t.Error("too few of one kind", seen, several)
	}
}

// A worker more, more minutes, a shorter rest, a skill more, a lower wage: none of them makes the best roster dearer.
func TestP22WhatMoreIsNoLoss(t *testing.T) {
	r := fixed()
	cheaper, opened := 0, 0
	for range 1500 {
		shifts, workers := someShifts(r, r.IntN(impl.MaxShifts)), someWorkers(r, 1+r.IntN(impl.MaxWorkers))
		last := len(workers) - 1
		changed := func(change func(w *impl.Worker)) []impl.Worker {
			more := slices.Clone(workers)
			change(&more[r.IntN(len(more))])
			return more
		}
		best, code := impl.BestRoster(shifts, workers[:last])
		all, allCode := impl.BestRoster(shifts, workers)
		if code == impl.OK && (allCode != impl.OK || all.Cost > best.Cost) {
			t.Fatalf("BestRoster(%v, %v) = %v, %d; without the last %v", shifts, workers, all, allCode, best)
		}
		if code == impl.OK && all.Cost < best.Cost {
			cheaper++
		}
		if code == impl.ErrNone && allCode == impl.OK {
			opened++
		}
		for _, more := range [][]impl.Worker{
			changed(func(w *impl.Worker) { w.Most = min(w.Most+1+r.IntN(100), impl.MaxWeek) }),
			changed(func(w *impl.Worker) { w.Rest = r.IntN(w.Rest + 1) }),
			changed(func(w *impl.Worker) { w.Cost = r.IntN(w.Cost + 1) }),
			changed(func(w *impl.Worker) { w.Skills = append(someNames(3), w.Skills...) }),
		} {
			after, afterCode := impl.BestRoster(shifts, more)
			if allCode == impl.OK && (afterCode != impl.OK || after.Cost > all.Cost) {
				t.Fatalf("BestRoster(%v, %v) = %v, %d; with %v less: %v", shifts, more, after, afterCode, workers, all)
			}
		}
	}
	if min(cheaper, opened) < 50 {
		t.Error("too few of one kind", cheaper, opened)
	}
}

// Wages that are all as many times as high, a week that begins later, skills in another order, other names: the same list.
func TestP22OtherWeeksAlike(t *testing.T) {
	r := fixed()
	for range 1000 {
		shifts, workers := someShifts(r, r.IntN(impl.MaxShifts)), someWorkers(r, r.IntN(impl.MaxWorkers+1))
		best, code := impl.BestRoster(shifts, workers)
		later := 1 + r.IntN(impl.MaxWeek-8000)
		for place := range shifts {
			shifts[place].From += later
			shifts[place].To += later
		}
		wantBestRoster(t, shifts, workers, best, code)
		for number := range workers {
			slices.Reverse(workers[number].Skills)
			workers[number].Name += "_"
		}
		wantBestRoster(t, shifts, workers, best, code)
		if slices.ContainsFunc(workers, func(w impl.Worker) bool { return w.Cost > 100 }) {
			continue
		}
		for number := range workers {
			workers[number].Cost *= 10
		}
		best.Cost *= 10
		wantBestRoster(t, shifts, workers, best, code)
		slices.Reverse(workers)
		if turned, turnedCode := impl.BestRoster(shifts, workers); turnedCode != code || turned.Cost != best.Cost {
			t.Fatalf("BestRoster(%v, %v) = %v, %d; the other way round %v, %d", shifts, workers, turned, turnedCode, best, code)
		}
	}
}

// tiedRosters are small, and several first workers have as good a roster, or one a little better.
func tiedRosters() []handRoster {
	return []handRoster{
		{apartShifts(3), freeWorkers(5), rosterOf(30, 0, 0, 0)},
		{apartShifts(2), []impl.Worker{free("a", 2), free("b", 1), free("c", 1), free("d", 1), free("e", 1)}, rosterOf(20, 1, 1)},
		{apartShifts(2), []impl.Worker{free("a", 5), free("b", 4), free("c", 3), free("d", 2), free("e", 1)}, rosterOf(20, 4, 4)},
		{slices.Repeat([]impl.Shift{shiftAt(0, 10, "till")}, 5), freeWorkers(5), rosterOf(50, 0, 1, 2, 3, 4)},
		{apartShifts(4), []impl.Worker{workerOf("a", 30, 0, 1, "till"), workerOf("b", 30, 0, 1, "till"), workerOf("c", 10, 0, 0, "till")}, rosterOf(30, 0, 0, 0, 2)},
	}
}

func wantTiedRosters(t *testing.T) {
	t.Helper()
	for _, c := range tiedRosters() {
		wantBestRoster(t, c.shifts, c.workers, c.want, impl.OK)
	}
	wantNoBestRoster(t, slices.Repeat(apartShifts(1), 6), freeWorkers(5), impl.ErrNone)
}

// Whichever of the first workers that are tried side by side is done first, the same is told: on one processor, on many, and beside other searches.
func TestP22BestRostersAtEveryCall(t *testing.T) {
	for _, processors := range []int{1, 2, runtime.NumCPU()} {
		before := runtime.GOMAXPROCS(processors)
		for range 500 {
			wantTiedRosters(t)
		}
		for _, c := range handRosters() {
			wantBestRoster(t, c.shifts, c.workers, c.want, impl.OK)
		}
		runtime.GOMAXPROCS(before)
	}
	var wait sync.WaitGroup
	for range 8 {
		wait.Go(func() {
			for range 200 {
				wantTiedRosters(t)
			}
		})
	}
	wait.Wait()
}

// Whatever a search answers, nothing of it goes on behind that.
func TestP22NothingRunsBehindARoster(t *testing.T) {
	ahead := runtime.NumGoroutine()
	for range 300 {
		wantTiedRosters(t)
		wantNoBestRoster(t, append(apartShifts(5), shiftAt(500, 501, "bread")), freeWorkers(5), impl.ErrNone)
		wantNoBestRoster(t, apartShifts(1), nil, impl.ErrNone)
		wantNoBestRoster(t, apartShifts(9), freeWorkers(5), impl.ErrBad)
	}
	for range 200 {
		if runtime.NumGoroutine() <= ahead {
			return
		}
		time.Sleep(10 * time.Millisecond) // the last statement of a goroutine is done ahead of its end
	}
	t.Errorf("%d goroutines run, ahead of the searches %d", runtime.NumGoroutine(), ahead)
}

package tests

import (
	"fmt"
	"math"
	"math/rand/v2"
	"slices"
	"testing"

	"loop.example/g00067/impl"
)

// lanesOf makes lanes of pairs: Room and Every.
func lanesOf(pairs ...[2]int) []impl.Lane {
	var lanes []impl.Lane
	for _, pair := range pairs {
		lanes = append(lanes, impl.Lane{Room: pair[0], Every: pair[1]})
	}
	return lanes
}

func lanesAlike(room, every, count int) []impl.Lane {
	return slices.Repeat(lanesOf([2]int{room, every}), count)
}

// teaLanes and teaParcels are right; parcels go round, and one is rejected.
func teaLanes() []impl.Lane { return lanesOf([2]int{1, 3}, [2]int{2, 100}) }

func teaParcels() []int { return []int{0, 0, 1, 1, 1} }

func teaSorted() impl.SortLog {
	return impl.SortLog{Ticks: 9, Recirculated: 4, Out: []int{0, 5, 2, 3, -1}, Rejected: []int{4}}
}

func sortCodeByWords(lanes []impl.Lane, parcels []int) int {
	if len(lanes) > 4096 || len(parcels) > 4096 {
		return impl.ErrLong
	}
	if len(lanes) > 9 || len(parcels) > 100 {
		return impl.ErrMany
	}
	for _, lane := range lanes {
		if lane.Room < 1 || lane.Room > 100 || lane.Every < 1 || lane.Every > 100 {
			return impl.ErrBad
		}
	}
	for _, lane := range parcels {
		if lane < 0 || lane >= len(lanes) {
			return impl.ErrRange
		}
	}
	return impl.OK
}

// sortByWords has the belt as a list of numbers, and counts what a lane has by the ticks at which parcels went into it.
func sortByWords(lanes []impl.Lane, parcels []int) (impl.SortLog, int) {
	if code := sortCodeByWords(lanes, parcels); code != impl.OK {
		return impl.SortLog{}, code
	}
	log := impl.SortLog{Out: alike(-1, len(parcels))}
	var belt []int
	for number := range parcels {
		belt = append(belt, number)
	}
	rounds := make([]int, len(parcels))
	for tick := 0; len(belt) > 0; tick++ {
		first := belt[0]
		belt = belt[1:]
		lane := lanes[parcels[first]]
		switch {
		case inLane(parcels, log.Out, parcels[first], tick/lane.Every*lane.Every) < lane.Room:
			log.Out[first] = tick
		case rounds[first] >= 3:
			log.Rejected = append(log.Rejected, first)
		default:
			rounds[first]++
			log.Recirculated++
			belt = append(belt, first)
		}
		log.Ticks = tick + 1
	}
	return log, impl.OK
}

// inLane counts the parcels that went into a lane at a tick or later.
func inLane(parcels, out []int, lane, since int) int {
	count := 0
	for number, at := range out {
		if at >= since && parcels[number] == lane {
			count++
		}
	}
	return count
}

func sameLog(a, b impl.SortLog) bool {
	return a.Ticks == b.Ticks && a.Recirculated == b.Recirculated && slices.Equal(a.Out, b.Out) && slices.Equal(a.Rejected, b.Rejected)
}

func wantSorted(t *testing.T, lanes []impl.Lane, parcels []int, want impl.SortLog, wantCode int) {
	t.Helper()
	if log, code := impl.SortRun(lanes, parcels); code != wantCode || !sameLog(log, want) {
		t.Errorf("SortRun(%.300s, %.300s) = %+v, %d; want %+v, %d", fmt.Sprint(lanes), fmt.Sprint(parcels), log, code, want, wantCode)
	}
}

func wantNotSorted(t *testing.T, lanes []impl.Lane, parcels []int, code int) {
	t.Helper()
	wantSorted(t, lanes, parcels, impl.SortLog{}, code)
}

func wantSortedByWords(t *testing.T, lanes []impl.Lane, parcels []int) int {
	t.Helper()
	want, code := sortByWords(lanes, parcels)
	wantSorted(t, lanes, parcels, want, code)
	return code
}

func laneNumbersThatAreWrong() []int {
	return []int{math.MinInt, math.MinInt + 1, -impl.MaxParcels, -1, 0, impl.MaxParcels + 1, math.MaxInt - 1, math.MaxInt}
}

// numbersUpTo are 0, 1, 2 and so on: what Out has where each parcel goes into its lane at once.
func numbersUpTo(count int) []int {
	var numbers []int
	for number := range count {
		numbers = append(numbers, number)
	}
	return numbers
}

// someLanes often have little Room and are seldom emptied, so that parcels go round.
func someLanes(r *rand.Rand, count int) []impl.Lane {
	room := []int{1, 2, 5, impl.MaxParcels}[r.IntN(4)]
	every := []int{1, 4, 15, impl.MaxParcels}[r.IntN(4)]
	var lanes []impl.Lane
	for range count {
		lanes = append(lanes, impl.Lane{Room: 1 + r.IntN(room), Every: 1 + r.IntN(every)})
	}
	return lanes
}

func someParcels(r *rand.Rand, lanes, count int) []int {
	var parcels []int
	for range count {
		parcels = append(parcels, r.IntN(lanes))
	}
	return parcels
}

func TestP20SortingByHand(t *testing.T) {
	for _, c := range []struct {
		lanes   []impl.Lane
		parcels []int
		want    impl.SortLog
	}{
		{teaLanes(), teaParcels(), teaSorted()},
		{nil, nil, impl.SortLog{}},
		{teaLanes(), nil, impl.SortLog{}}, // no parcel, no tick
		{lanesAlike(1, 1, impl.MaxLanes), nil, impl.SortLog{}},
		{lanesOf([2]int{1, 1}), []int{0}, impl.SortLog{Ticks: 1, Out: []int{0}}}, // tick 0
		{lanesOf([2]int{1, 100}), []int{0}, impl.SortLog{Ticks: 1, Out: []int{0}}},
		{lanesOf([2]int{1, 1}), []int{0, 0, 0}, impl.SortLog{Ticks: 3, Out: []int{0, 1, 2}}},                                             // Every 1: emptied at each tick
		{lanesOf([2]int{1, 2}), []int{0, 0}, impl.SortLog{Ticks: 3, Recirculated: 1, Out: []int{0, 2}}},                                  // one alone on the belt goes round, and the lane is emptied at its very tick
		{lanesOf([2]int{1, 3}), []int{0, 0}, impl.SortLog{Ticks: 4, Recirculated: 2, Out: []int{0, 3}}},                                  // round twice
		{lanesOf([2]int{1, 4}), []int{0, 0}, impl.SortLog{Ticks: 5, Recirculated: 3, Out: []int{0, 4}}},                                  // round MaxRounds times, and into its lane
		{lanesOf([2]int{1, 5}), []int{0, 0}, impl.SortLog{Ticks: 5, Recirculated: 3, Out: []int{0, -1}, Rejected: []int{1}}},             // one tick too late
		{lanesOf([2]int{2, 5}), []int{0, 0}, impl.SortLog{Ticks: 2, Out: []int{0, 1}}},                                                   // just full
		{lanesOf([2]int{2, 5}), []int{0, 0, 0}, impl.SortLog{Ticks: 6, Recirculated: 3, Out: []int{0, 1, 5}}},                            // all for one lane
		{lanesOf([2]int{1, 100}), []int{0, 0, 0}, impl.SortLog{Ticks: 9, Recirculated: 6, Out: []int{0, -1, -1}, Rejected: []int{1, 2}}}, // in the order in which they are rejected
		{lanesOf([2]int{1, 100}, [2]int{1, 100}), []int{1, 0, 1, 0}, impl.SortLog{Ticks: 10, Recirculated: 6, Out: []int{0, 1, -1, -1}, Rejected: []int{2, 3}}},
		{lanesOf([2]int{1, 2}), []int{0, 0, 0}, impl.SortLog{Ticks: 5, Recirculated: 2, Out: []int{0, 3 + 1, 2}}},                                        // 1 goes round at tick 1; 2 is in at 2; 1 goes round at 3, and is in at 4
		{lanesOf([2]int{1, 100}, [2]int{9, 9}), []int{0, 0, 1, 1}, impl.SortLog{Ticks: 7, Recirculated: 3, Out: []int{0, -1, 2, 3}, Rejected: []int{1}}}, // behind all others
		{lanesOf([2]int{1, 7}, [2]int{9, 9}), []int{0, 0, 1, 1}, impl.SortLog{Ticks: 7, Recirculated: 3, Out: []int{0, -1, 2, 3}, Rejected: []int{1}}},
		{lanesOf([2]int{1, 6}, [2]int{9, 9}), []int{0, 0, 1, 1}, impl.SortLog{Ticks: 7, Recirculated: 3, Out: []int{0, 6, 2, 3}}},
		{lanesAlike(1, 1, impl.MaxLanes), []int{8, 7, 6, 5, 4, 3, 2, 1, 0}, impl.SortLog{Ticks: 9, Out: numbersUpTo(9)}},
		{lanesAlike(1, 100, impl.MaxLanes), []int{8, 7, 6, 5, 4, 3, 2, 1, 0}, impl.SortLog{Ticks: 9, Out: numbersUpTo(9)}},
		{lanesOf([2]int{100, 100}), alike(0, 100), impl.SortLog{Ticks: 100, Out: numbersUpTo(100)}},
		{lanesOf([2]int{99, 100}), alike(0, 100), impl.SortLog{Ticks: 101, Recirculated: 1, Out: append(numbersUpTo(99), 100)}},
		{lanesOf([2]int{1, 1}), alike(0, 100), impl.SortLog{Ticks: 100, Out: numbersUpTo(100)}},
	} {
		wantSorted(t, c.lanes, c.parcels, c.want, impl.OK)
		if log, code := sortByWords(c.lanes, c.parcels); code != impl.OK || !sameLog(log, c.want) {
			t.Errorf("%v: by the words %+v, %d", c, log, code)
		}
	}
}

// One parcel alone on the belt waits tick by tick: what it needs is told by Every.
func TestP20OneParcelAloneGoesRound(t *testing.T) {
	for room := 1; room <= 20; room++ {
		for every := 1; every <= impl.MaxParcels; every++ {
			parcels := alike(0, room+1)
			next := every // at which the lane has room once more
			for next < room {
				next += every
			}
			switch {
			case every <= room: // emptied ahead of the last parcel, so that it has room at once
				wantSorted(t, lanesOf([2]int{room, every}), parcels, impl.SortLog{Ticks: room + 1, Out: numbersUpTo(room + 1)}, impl.OK)
			case next-room <= impl.MaxRounds:
				wantSorted(t, lanesOf([2]int{room, every}), parcels, impl.SortLog{Ticks: next + 1, Recirculated: next - room, Out: append(numbersUpTo(room), next)}, impl.OK)
			default:
				wantSorted(t, lanesOf([2]int{room, every}), parcels, impl.SortLog{Ticks: room + 4, Recirculated: 3, Out: append(numbersUpTo(room), -1), Rejected: []int{room}}, impl.OK)
			}
		}
	}
}

func TestSortingAtTheEdges(t *testing.T) {
	for _, count := range []int{1, 2, impl.MaxLanes - 1, impl.MaxLanes} {
		for _, room := range []int{1, 2, impl.MaxParcels - 1, impl.MaxParcels} {
			for _, every := range []int{1, 2, impl.MaxParcels - 1, impl.MaxParcels} {
				for _, parcels := range []int{0, 1, 2, impl.MaxParcels - 1, impl.MaxParcels} {
					for _, lane := range []int{0, count - 1} {
						if code := wantSortedByWords(t, lanesAlike(room, every, count), alike(lane, parcels)); code != impl.OK {
							t.Errorf("SortRun of %d lanes %d, %d and %d parcels for %d: %d", count, room, every, parcels, lane, code)
						}
					}
				}
			}
		}
	}
}

func TestSortingThatIsWrong(t *testing.T) {
	for _, number := range laneNumbersThatAreWrong() {
		for place := range teaLanes() {
			for _, wrong := range lanesOf([2]int{number, 1}, [2]int{1, number}, [2]int{number, impl.MaxParcels}, [2]int{impl.MaxParcels, number}, [2]int{number, number}, [2]int{number, -1}, [2]int{-1, number}) {
				lanes := teaLanes()
				lanes[place] = wrong
				for _, parcels := range [][]int{nil, {}, {0}, teaParcels(), alike(0, impl.MaxParcels)} {
					wantNotSorted(t, lanes, parcels, impl.ErrBad)
				}
			}
		}
		wantNotSorted(t, append(lanesAlike(1, 1, impl.MaxLanes-1), impl.Lane{Room: 1, Every: number}), []int{0}, impl.ErrBad)
		wantNotSorted(t, append(lanesAlike(1, 1, impl.MaxLanes-1), impl.Lane{Room: number, Every: 1}), []int{0}, impl.ErrBad)
	}
	for count := range impl.MaxLanes + 1 {
		for _, number := range []int{math.MinInt, math.MinInt + 1, -count, -1, count, count + 1, impl.MaxLanes, math.MaxInt - 1, math.MaxInt} {
			if 0 <= number && number < count {
				continue
			}
			lanes := lanesAlike(1, 1, count)
			wantNotSorted(t, lanes, []int{number}, impl.ErrRange)
			if count > 0 {
				for place := range 4 {
					parcels := alike(count-1, 4)
					parcels[place] = number
					wantNotSorted(t, lanes, parcels, impl.ErrRange)
				}
				wantNotSorted(t, lanes, append(alike(0, impl.MaxParcels-1), number), impl.ErrRange)
			}
		}
	}
}

func TestSortingWhichFaultComesFirst(t *testing.T) {
	for _, number := range append(laneNumbersThatAreWrong(), 1, impl.MaxParcels) {
		lanes := [][]impl.Lane{nil, teaLanes(), lanesAlike(number, number, 1), lanesAlike(number, 1, impl.MaxLanes), lanesAlike(1, number, impl.MaxLanes)}
		parcels := [][]int{nil, teaParcels(), {number}, alike(number, impl.MaxParcels)}
		for _, count := range []int{impl.MaxLanes + 1, impl.MaxLanes + 2, 1000, impl.MaxList} {
			for _, list := range parcels {
				wantNotSorted(t, lanesAlike(number, number, count), list, impl.ErrMany)
				wantNotSorted(t, lanesAlike(1, 1, count), list, impl.ErrMany)
			}
		}
		for _, count := range []int{impl.MaxParcels + 1, impl.MaxParcels + 2, 1000, impl.MaxList} {
			for _, list := range lanes {
				wantNotSorted(t, list, alike(number, count), impl.ErrMany)
				wantNotSorted(t, list, alike(0, count), impl.ErrMany)
			}
		}
		for _, count := range []int{impl.MaxList + 1, 2 * impl.MaxList} {
			for _, list := range append(parcels, alike(0, 1000), alike(0, count)) {
				wantNotSorted(t, lanesAlike(number, number, count), list, impl.ErrLong)
			}
			for _, list := range append(lanes, lanesAlike(1, 1, 1000), lanesAlike(1, 1, count)) {
				wantNotSorted(t, list, alike(number, count), impl.ErrLong)
			}
		}
	}
	for _, number := range laneNumbersThatAreWrong() {
		for _, lane := range []int{-1, 2, math.MinInt, math.MaxInt} {
			wantNotSorted(t, append(teaLanes()[:1], impl.Lane{Room: 1, Every: number}), []int{lane, 0}, impl.ErrBad)
			wantNotSorted(t, append(teaLanes()[:1], impl.Lane{Room: number, Every: 1}), []int{lane, 0}, impl.ErrBad)
		}
	}
}

func TestP20EverySmallSorting(t *testing.T) {
	seen := map[int]int{}
	for count := range 6 {
		eachCounts(count+2, 0, 2, func(numbers []int) {
			for _, every := range [][2]int{{1, 1}, {2, 3}, {4, 2}, {5, 7}, {3, 12}} {
				lanes := lanesOf([2]int{numbers[0], every[0]}, [2]int{numbers[1], every[1]})
				seen[wantSortedByWords(t, lanes, numbers[2:])]++
			}
		})
	}
	for room := 1; room <= 4; room++ {
		for every := 1; every <= 12; every++ {
			for count := range 30 {
				seen[wantSortedByWords(t, lanesOf([2]int{room, every}), alike(0, count))]++
			}
		}
	}
	if min(seen[impl.OK], seen[impl.ErrBad], seen[impl.ErrRange]) < 1000 {
		t.Error("too few of one code", seen)
	}
}

// sortingFault tells what of the promise a log breaks, without going through the ticks.
func sortingFault(lanes []impl.Lane, parcels []int, log impl.SortLog) string {
	if len(log.Out) != len(parcels) || log.Ticks != len(parcels)+log.Recirculated {
		return "each tick one parcel leaves the belt's head: into its lane, for good, or round"
	}
	rejected := slices.Sorted(slices.Values(log.Rejected))
	ticks := map[int]int{}
	type filling struct{ lane, time int }
	filled := map[filling]int{}
	for number, at := range log.Out {
		if _, found := slices.BinarySearch(rejected, number); found != (at == -1) {
			return "a parcel is in its lane and rejected, or neither"
		}
		if at == -1 {
			continue
		}
		if at < 0 || at >= log.Ticks || ticks[at] > 0 {
			return "a tick that was not, or two parcels at one tick"
		}
		ticks[at]++
		lane := lanes[parcels[number]]
		where := filling{parcels[number], at / lane.Every}
		filled[where]++
		if filled[where] > lane.Room {
			return "a lane has more than Room between two times that it is emptied"
		}
	}
	if len(slices.Compact(rejected)) != len(log.Rejected) || log.Recirculated < 3*len(log.Rejected) || log.Recirculated > 3*len(parcels) {
		return "one is rejected twice, or did not go round, or too often"
	}
	return ""
}

func TestP20EachParcelLeavesTheBeltOnce(t *testing.T) {
	r := fixed()
	straight, round, rejected := 0, 0, 0
	for range 12000 {
		lanes := someLanes(r, 1+r.IntN(impl.MaxLanes))
		parcels := someParcels(r, len(lanes), r.IntN(impl.MaxParcels+1))
		if code := wantSortedByWords(t, lanes, parcels); code != impl.OK {
			t.Fatalf("SortRun(%v, %v): %d", lanes, parcels, code)
		}
		log, _ := impl.SortRun(lanes, parcels)
		if fault := sortingFault(lanes, parcels, log); fault != "" {
			t.Fatalf("SortRun(%v, %v) = %+v: %s", lanes, parcels, log, fault)
		}
		switch {
		case len(log.Rejected) > 0:
			rejected++
		case log.Recirculated > 0:
			round++
		default:
			straight++
		}
	}
	if min(straight, round, rejected) < 500 {
		t.Error("too few of one kind", straight, round, rejected)
	}
}

// A lane that no parcel is for says nothing, nor does the number by which a lane goes.
func TestP20LanesAreOnesOfTheirOwn(t *testing.T) {
	r := fixed()
	for range 1000 {
		lanes := someLanes(r, 1+r.IntN(impl.MaxLanes-1))
		parcels := someParcels(r, len(lanes), r.IntN(impl.MaxParcels+1))
		want, _ := impl.SortRun(lanes, parcels)
		wantSorted(t, append(slices.Clone(lanes), someLanes(r, 1)...), parcels, want, impl.OK)
		slices.Reverse(lanes)
		for place := range parcels {
			parcels[place] = len(lanes) - 1 - parcels[place]
		}
		wantSorted(t, lanes, parcels, want, impl.OK)
	}
}

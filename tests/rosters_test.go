package tests

import (
	"fmt"
	"math"
	"math/rand/v2"
	"slices"
	"strings"
	"testing"

	"loop.example/g00067/impl"
)

func shiftAt(from, to int, skill string) impl.Shift {
	return impl.Shift{From: from, To: to, Skill: skill}
}

func workerOf(name string, most, rest, cost int, skills ...string) impl.Worker {
	return impl.Worker{Name: name, Most: most, Rest: rest, Cost: cost, Skills: skills}
}

// free is a worker who can have every shift of the skill till.
func free(name string, cost int) impl.Worker { return workerOf(name, impl.MaxWeek, 0, cost, "till") }

func freeWorkers(count int) []impl.Worker {
	var workers []impl.Worker
	for _, name := range someNames(count) {
		workers = append(workers, free(name, 1))
	}
	return workers
}

// apartShifts are count shifts of the skill till, ten minutes each, with ten minutes between.
func apartShifts(count int) []impl.Shift {
	var shifts []impl.Shift
	for place := range count {
		shifts = append(shifts, shiftAt(20*place, 20*place+10, "till"))
	}
	return shifts
}

// teaShifts and teaWorkers are right; ann is cheap, but she can not bake, and has not rested for the second shift.
func teaShifts() []impl.Shift {
	return []impl.Shift{shiftAt(0, 60, "till"), shiftAt(70, 100, "till"), shiftAt(110, 170, "bread")}
}

func teaWorkers() []impl.Worker {
	return []impl.Worker{workerOf("ann", 120, 15, 5, "till"), workerOf("bo", 90, 10, 7, "bread", "till")}
}

func rosterOf(cost int, who ...int) impl.Roster { return impl.Roster{Who: who, Cost: cost} }

func sameRoster(a, b impl.Roster) bool { return slices.Equal(a.Who, b.Who) && a.Cost == b.Cost }

func workerByWords(w impl.Worker) bool {
	switch {
	case w.Most < 0, w.Most > 10080, w.Rest < 0, w.Rest > 10080, w.Cost < 0, w.Cost > 1000, len(w.Skills) > 6:
		return false
	}
	for _, skill := range w.Skills {
		if !impl.NameOK(skill) {
			return false
		}
	}
	return impl.NameOK(w.Name)
}

func shiftsByWords(shifts []impl.Shift, workers []impl.Worker) bool {
	ahead := 0
	for _, s := range shifts {
		if s.From < ahead || s.From >= s.To || s.To > 10080 || !impl.NameOK(s.Skill) {
			return false
		}
		ahead = s.From
	}
	seen := map[string]int{}
	for _, w := range workers {
		if !workerByWords(w) || seen[w.Name] > 0 {
			return false
		}
		seen[w.Name]++
	}
	return len(shifts) <= 8 && len(workers) <= 5
}

func rosterCodeByWords(shifts []impl.Shift, workers []impl.Worker) int {
	switch {
	case len(shifts) > 4096, len(workers) > 4096:
		return impl.ErrLong
	case !shiftsByWords(shifts, workers):
		return impl.ErrBad
	}
	return impl.OK
}

// againstByWords looks through all shifts ahead that the worker has.
func againstByWords(s impl.Shift, w impl.Worker, has []impl.Shift) int {
	minutes := s.To - s.From
	rested := true
	for _, ahead := range has {
		minutes += ahead.To - ahead.From
		if s.From-ahead.To < w.Rest || s.From < ahead.To {
			rested = false
		}
	}
	switch {
	case !slices.Contains(w.Skills, s.Skill):
		return impl.ErrKind
	case !rested:
		return impl.ErrState
	case minutes > w.Most:
		return impl.ErrOver
	}
	return impl.OK
}

func rosterByWords(shifts []impl.Shift, workers []impl.Worker, who []int) (impl.Roster, int, int) {
	if len(who) > 4096 {
		return impl.Roster{}, impl.ErrLong, 0
	}
	if code := rosterCodeByWords(shifts, workers); code != impl.OK {
		return impl.Roster{}, code, 0
	}
	if len(who) != len(shifts) {
		return impl.Roster{}, impl.ErrForm, 0
	}
	var has [5][]impl.Shift
	cost := 0
	for place, number := range who {
		if number < 0 || number >= len(workers) {
			return impl.Roster{}, impl.ErrRange, place
		}
		if code := againstByWords(shifts[place], workers[number], has[number]); code != impl.OK {
			return impl.Roster{}, code, place
		}
		has[number] = append(has[number], shifts[place])
		cost += (shifts[place].To - shifts[place].From) * workers[number].Cost
	}
	return rosterOf(cost, slices.Clone(who)...), impl.OK, 0
}

// minuteBook is what a worker does at each minute.
type minuteBook struct{ works, rests map[int]int }

// rosterByMinutes is of shifts and workers that are right and numbers of theirs: each worker's week is gone through minute by minute.
func rosterByMinutes(shifts []impl.Shift, workers []impl.Worker, who []int) (impl.Roster, int, int) {
	books := make([]minuteBook, len(workers))
	for number := range books {
		books[number] = minuteBook{works: map[int]int{}, rests: map[int]int{}}
	}
	cost := 0
	for place, number := range who {
		s, w, mine := shifts[place], workers[number], books[number]
		if !slices.Contains(w.Skills, s.Skill) {
			return impl.Roster{}, impl.ErrKind, place
		}
		if mine.works[s.From]+mine.rests[s.From] > 0 {
			return impl.Roster{}, impl.ErrState, place
		}
		for minute := s.From; minute < s.To; minute++ {
			mine.works[minute]++
			cost += w.Cost
		}
		if len(mine.works) > w.Most {
			return impl.Roster{}, impl.ErrOver, place
		}
		for minute := s.To; minute < s.To+w.Rest; minute++ {
			mine.rests[minute]++
		}
	}
	return rosterOf(cost, slices.Clone(who)...), impl.OK, 0
}

func rosterSaid(shifts []impl.Shift, workers []impl.Worker, who []int) string {
	return fmt.Sprintf("RosterOf(%.300s, %.300s, %.300s)", fmt.Sprint(shifts), fmt.Sprint(workers), fmt.Sprint(who))
}

func wantRoster(t *testing.T, shifts []impl.Shift, workers []impl.Worker, who []int, want impl.Roster, wantCode, wantAt int) {
	t.Helper()
	roster, code, at := impl.RosterOf(shifts, workers, who)
	if code != wantCode || at != wantAt || !sameRoster(roster, want) {
		t.Errorf("%s = %+v, %d, %d; want %+v, %d, %d", rosterSaid(shifts, workers, who), roster, code, at, want, wantCode, wantAt)
	}
}

func wantNoRoster(t *testing.T, shifts []impl.Shift, workers []impl.Worker, who []int, code, at int) {
	t.Helper()
	wantRoster(t, shifts, workers, who, impl.Roster{}, code, at)
}

func wantRosterByWords(t *testing.T, shifts []impl.Shift, workers []impl.Worker, who []int) int {
	t.Helper()
	want, code, at := rosterByWords(shifts, workers, who)
	wantRoster(t, shifts, workers, who, want, code, at)
	return code
}

func wantShiftsOK(t *testing.T, shifts []impl.Shift, workers []impl.Worker, want bool) {
	t.Helper()
	if ok := impl.ShiftsOK(shifts, workers); ok != want {
		t.Errorf("ShiftsOK(%.300s, %.300s) = %v", fmt.Sprint(shifts), fmt.Sprint(workers), ok)
	}
}

// wrongShifts break one rule each, the last ones several; none hangs on the shift ahead.
func wrongShifts() []impl.Shift {
	var list []impl.Shift
	for _, n := range []int{math.MinInt, math.MinInt + 1, -impl.MaxWeek, -2, -1, 60, 61, impl.MaxWeek, impl.MaxWeek + 1, math.MaxInt} {
		list = append(list, shiftAt(n, 60, "till"))
	}
	for _, n := range []int{math.MinInt, -1, 0, 29, 30, impl.MaxWeek + 1, impl.MaxWeek + 2, math.MaxInt - 1, math.MaxInt} {
		list = append(list, shiftAt(30, n, "till"))
	}
	for _, text := range textsThatAreNoNames() {
		list = append(list, shiftAt(30, 60, text))
	}
	return append(list, impl.Shift{}, shiftAt(0, 0, "till"), shiftAt(-1, 0, "till"), shiftAt(impl.MaxWeek, impl.MaxWeek, "till"), shiftAt(impl.MaxWeek, impl.MaxWeek+1, "till"), shiftAt(math.MinInt, math.MaxInt, ""), shiftAt(math.MaxInt, math.MinInt, "9"))
}

// edgeShifts are right, each with a number or a text at an edge.
func edgeShifts() []impl.Shift {
	return []impl.Shift{
		shiftAt(0, 1, "till"), shiftAt(0, impl.MaxWeek, "till"), shiftAt(0, 60, "t"), shiftAt(0, 2, "käse"), shiftAt(0, 90, strings.Repeat("n", impl.MaxName)),
		shiftAt(1, 2, "till"), shiftAt(60, 61, "till"), shiftAt(impl.MaxWeek-2, impl.MaxWeek-1, "till"), shiftAt(impl.MaxWeek-1, impl.MaxWeek, "till"),
	}
}

// wrongWorkers break one rule each, the last ones several.
func wrongWorkers() []impl.Worker {
	var list []impl.Worker
	for _, n := range []int{math.MinInt, math.MinInt + 1, -impl.MaxWeek, -2, -1, impl.MaxWeek + 1, impl.MaxWeek + 2, math.MaxInt - 1, math.MaxInt} {
		list = append(list, workerOf("x", n, 10, 5, "till"), workerOf("x", 100, n, 5, "till"))
	}
	for _, n := range []int{math.MinInt, -1000, -2, -1, 1001, 1002, math.MaxInt - 1, math.MaxInt} {
		list = append(list, workerOf("x", 100, 10, n, "till"))
	}
	for _, text := range textsThatAreNoNames() {
		list = append(list, workerOf(text, 100, 10, 5, "till"), workerOf("x", 100, 10, 5, text), workerOf("x", 100, 10, 5, "till", text), workerOf("x", 100, 10, 5, text, "till", "bread", "wine", "fish", "meat"), workerOf("x", 100, 10, 5, "till", "bread", "wine", "fish", "meat", text))
	}
	for _, count := range []int{impl.MaxSkills + 1, impl.MaxSkills + 2, 100, impl.MaxList, impl.MaxList + 1, 2 * impl.MaxList} {
		list = append(list, workerOf("x", 100, 10, 5, slices.Repeat([]string{"till"}, count)...), workerOf("x", 100, 10, 5, make([]string, count)...), workerOf("x", 100, 10, 5, someNames(count)...))
	}
	return append(list, impl.Worker{}, workerOf("", math.MinInt, math.MaxInt, math.MinInt, ""), workerOf("x", -1, -1, -1))
}

// edgeWorkers are right, each with a number or a list at an edge; no two have one Name.
func edgeWorkers() []impl.Worker {
	week := impl.MaxWeek
	return []impl.Worker{
		workerOf("a", 0, 0, 0), workerOf("b", 0, 0, 0, "till"), workerOf("c", week, 0, 0, "till"), workerOf("d", week, week, 1000, "till"), workerOf("e", week, 0, 1000, "till", "till"),
		workerOf("käse", 1, 1, 1, "till", "t", "käse"), workerOf("_", week-1, week-1, 999, someNames(impl.MaxSkills)...), workerOf("f", week, 1, 3, slices.Repeat([]string{"till"}, impl.MaxSkills)...),
		workerOf(strings.Repeat("n", impl.MaxName), week, 0, 500, strings.Repeat("n", impl.MaxName), "till"), workerOf("till", 60, 0, 2, "till", "bread", "wine", "fish", "meat", "t"),
	}
}

func TestP22ShiftsOKByEachRule(t *testing.T) {
	for _, shifts := range [][]impl.Shift{nil, {}, teaShifts(), apartShifts(impl.MaxShifts)} {
		for _, workers := range [][]impl.Worker{nil, {}, teaWorkers(), freeWorkers(impl.MaxWorkers)} {
			wantShiftsOK(t, shifts, workers, true)
			for _, s := range edgeShifts() {
				wantShiftsOK(t, []impl.Shift{s}, workers, true)
			}
			for _, w := range edgeWorkers() {
				wantShiftsOK(t, shifts, []impl.Worker{w}, true)
			}
			for _, s := range wrongShifts() {
				wantShiftsOK(t, []impl.Shift{s}, workers, false)
			}
			for _, w := range wrongWorkers() {
				wantShiftsOK(t, shifts, []impl.Worker{w}, false)
			}
		}
	}
	for count := range 4 * impl.MaxShifts {
		wantShiftsOK(t, apartShifts(count), teaWorkers(), count <= impl.MaxShifts)
		wantShiftsOK(t, slices.Repeat([]impl.Shift{shiftAt(0, 60, "till")}, count), nil, count <= impl.MaxShifts)
		wantShiftsOK(t, nil, freeWorkers(count), count <= impl.MaxWorkers)
		wantShiftsOK(t, teaShifts(), freeWorkers(count), count <= impl.MaxWorkers)
	}
	for _, count := range []int{100, impl.MaxList, impl.MaxList + 1, 3 * impl.MaxList} {
		wantShiftsOK(t, make([]impl.Shift, count), teaWorkers(), false)
		wantShiftsOK(t, slices.Repeat([]impl.Shift{shiftAt(0, 60, "till")}, count), teaWorkers(), false)
		wantShiftsOK(t, teaShifts(), make([]impl.Worker, count), false)
		wantShiftsOK(t, teaShifts(), freeWorkers(count), false)
	}
}

// Each wrong one stands at each place among right ones.
func TestP22ShiftsOKAtEachPlace(t *testing.T) {
	for count := 1; count <= impl.MaxShifts; count++ {
		for place := range count {
			for _, wrong := range wrongShifts() {
				shifts := slices.Repeat([]impl.Shift{shiftAt(30, 60, "till")}, count)
				wantShiftsOK(t, shifts, teaWorkers(), true)
				shifts[place] = wrong
				wantShiftsOK(t, shifts, teaWorkers(), false)
			}
			if place > 0 {
				shifts := apartShifts(count)
				shifts[place].From = shifts[place-1].From // alike is not below
				wantShiftsOK(t, shifts, nil, true)
				shifts[place-1].From++
				wantShiftsOK(t, shifts, nil, false)
			}
		}
	}
	for count := 1; count <= impl.MaxWorkers; count++ {
		for place := range count {
			for _, wrong := range wrongWorkers() {
				workers := freeWorkers(count)
				workers[place] = wrong
				wantShiftsOK(t, teaShifts(), workers, false)
			}
			for other := range place {
				workers := freeWorkers(count)
				workers[place].Name = workers[other].Name
				workers[place].Cost = 999
				wantShiftsOK(t, nil, workers, false)
				workers[place].Name += "_"
				wantShiftsOK(t, nil, workers, true)
			}
		}
	}
}

func TestP22ShiftsOKOfNumbersAboutTheEdges(t *testing.T) {
	seen := map[bool]int{}
	minutes := []int{-1, 0, 1, 10079, 10080, 10081}
	for _, from := range minutes {
		for _, to := range minutes {
			for _, next := range minutes {
				shifts := []impl.Shift{shiftAt(from, to, "till"), shiftAt(next, 10080, "bread")}
				wantShiftsOK(t, shifts, nil, shiftsByWords(shifts, nil))
				wantShiftsOK(t, shifts[:1], nil, shiftsByWords(shifts[:1], nil))
				seen[shiftsByWords(shifts[:1], nil)]++
			}
		}
	}
	for _, most := range minutes {
		for _, rest := range minutes {
			for _, cost := range []int{-1, 0, 1, 999, 1000, 1001} {
				for count := range impl.MaxSkills + 3 {
					workers := []impl.Worker{workerOf("x", most, rest, cost, someNames(count)...)}
					wantShiftsOK(t, nil, workers, shiftsByWords(nil, workers))
					seen[shiftsByWords(nil, workers)]++
				}
			}
		}
	}
	if min(seen[true], seen[false]) < 100 {
		t.Error("too few of one kind", seen)
	}
}

func TestP22RostersByHand(t *testing.T) {
	week := impl.MaxWeek
	for _, c := range []struct {
		shifts  []impl.Shift
		workers []impl.Worker
		want    impl.Roster
	}{
		{nil, nil, rosterOf(0)},
		{nil, teaWorkers(), rosterOf(0)},
		{nil, freeWorkers(impl.MaxWorkers), rosterOf(0)},
		{teaShifts()[:1], teaWorkers(), rosterOf(60*5, 0)},
		{teaShifts()[:1], teaWorkers(), rosterOf(60*7, 1)},
		{teaShifts()[:2], teaWorkers(), rosterOf(60*5+30*7, 0, 1)},
		{teaShifts()[:2], teaWorkers(), rosterOf(60*7+30*5, 1, 0)},
		{teaShifts()[:2], teaWorkers(), rosterOf(60*7+30*7, 1, 1)},
		{teaShifts(), teaWorkers(), rosterOf(60*5+30*7+60*7, 0, 1, 1)},
		{apartShifts(8), freeWorkers(1), rosterOf(80, alike(0, 8)...)},
		{apartShifts(8), freeWorkers(5), rosterOf(80, 4, 3, 2, 1, 0, 1, 2, 3)},
		{[]impl.Shift{shiftAt(0, week, "till")}, []impl.Worker{free("a", 1000)}, rosterOf(10080000, 0)},
		{[]impl.Shift{shiftAt(0, week, "till")}, []impl.Worker{free("a", 0)}, rosterOf(0, 0)},
		{[]impl.Shift{shiftAt(0, 1, "till"), shiftAt(week-1, week, "till")}, []impl.Worker{workerOf("a", 2, week-2, 9, "till")}, rosterOf(18, 0, 0)},
		{slices.Repeat([]impl.Shift{shiftAt(0, week, "till")}, 5), freeWorkers(5), rosterOf(5*10080, 3, 1, 4, 0, 2)},                                  // all at once
		{[]impl.Shift{shiftAt(0, 90, "till"), shiftAt(10, 20, "till"), shiftAt(20, 30, "till")}, freeWorkers(2), rosterOf(110, 0, 1, 1)},              // a long one beside short ones
		{[]impl.Shift{shiftAt(5, 6, "käse")}, []impl.Worker{workerOf("a", 1, 0, 3, "till", "käse")}, rosterOf(3, 0)},                                  // the first shift needs no rest
		{[]impl.Shift{shiftAt(5, 6, "till")}, []impl.Worker{workerOf("a", 1, week, 3, "till", "till")}, rosterOf(3, 0)},                               // however long the rest is
		{[]impl.Shift{shiftAt(0, 1, "till"), shiftAt(1, 2, "till"), shiftAt(2, 3, "till")}, []impl.Worker{free("a", 3)}, rosterOf(9, 0, 0, 0)},        // one ends as the next one begins
		{[]impl.Shift{shiftAt(0, 9, "till"), shiftAt(3, 4, "till")}, []impl.Worker{free("a", 3), workerOf("b", 1, 9, 7, "till")}, rosterOf(34, 0, 1)}, // each with its own
	} {
		wantRoster(t, c.shifts, c.workers, c.want.Who, c.want, impl.OK, 0)
		if roster, code, at := rosterByWords(c.shifts, c.workers, c.want.Who); code != impl.OK || at != 0 || !sameRoster(roster, c.want) {
			t.Errorf("%v: by the words %v, %d, %d", c, roster, code, at)
		}
		if roster, code, at := rosterByMinutes(c.shifts, c.workers, c.want.Who); code != impl.OK || at != 0 || !sameRoster(roster, c.want) {
			t.Errorf("%v: by minutes %v, %d, %d", c, roster, code, at)
		}
	}
}

// Whoever is wanted for a shift, the first ground against it is told, at the first shift that has one.
func TestP22WhatStandsAgainstAWorker(t *testing.T) {
	week := impl.MaxWeek
	for _, c := range []struct {
		shifts   []impl.Shift
		workers  []impl.Worker
		who      []int
		code, at int
	}{
		{teaShifts(), teaWorkers(), []int{0, 1, 0}, impl.ErrKind, 2},
		{teaShifts(), teaWorkers(), []int{0, 0, 1}, impl.ErrState, 1},
		{teaShifts(), teaWorkers(), []int{0, 0, 0}, impl.ErrState, 1}, // the shift behind has another fault
		{teaShifts(), teaWorkers(), []int{1, 1, 1}, impl.ErrOver, 2},
		{teaShifts(), teaWorkers(), []int{1, 1, 0}, impl.ErrKind, 2},
		{teaShifts(), teaWorkers(), []int{1, 0, 1}, impl.ErrOver, 2},
		{apartShifts(1), []impl.Worker{workerOf("a", 10, 0, 1)}, []int{0}, impl.ErrKind, 0}, // no skills
		{apartShifts(1), []impl.Worker{workerOf("till", 10, 0, 1, "Till", "t", "tills", "til")}, []int{0}, impl.ErrKind, 0},
		{[]impl.Shift{shiftAt(0, 1, "till"), shiftAt(1, 2, "t")}, []impl.Worker{free("t", 3)}, []int{0, 0}, impl.ErrKind, 1},
		{apartShifts(1), []impl.Worker{workerOf("a", 0, 0, 0, "till")}, []int{0}, impl.ErrOver, 0},
		{apartShifts(1), []impl.Worker{workerOf("a", 9, 0, 1, "till")}, []int{0}, impl.ErrOver, 0},
		{apartShifts(1), []impl.Worker{workerOf("a", 9, week, 1, "till")}, []int{0}, impl.ErrOver, 0}, // the first shift needs no rest
		{apartShifts(1), []impl.Worker{workerOf("a", 0, week, 1)}, []int{0}, impl.ErrKind, 0},
		{apartShifts(8), []impl.Worker{workerOf("a", week, 11, 1, "till")}, alike(0, 8), impl.ErrState, 1},
		{apartShifts(8), []impl.Worker{workerOf("a", 79, 10, 1, "till")}, alike(0, 8), impl.ErrOver, 7},
		{apartShifts(8), []impl.Worker{workerOf("a", 79, 10, 1, "till"), workerOf("b", 70, 30, 1, "till")}, []int{0, 1, 0, 1, 0, 0, 1, 1}, impl.ErrState, 7},
		{apartShifts(8), []impl.Worker{workerOf("a", 79, 10, 1, "till"), workerOf("b", 29, 30, 1, "till")}, []int{0, 1, 0, 1, 0, 0, 1, 1}, impl.ErrOver, 6},
		{[]impl.Shift{shiftAt(0, 90, "till"), shiftAt(10, 20, "till")}, freeWorkers(1), []int{0, 0}, impl.ErrState, 1}, // within the one ahead
		{[]impl.Shift{shiftAt(0, 90, "till"), shiftAt(0, 90, "till")}, freeWorkers(1), []int{0, 0}, impl.ErrState, 1},
		{[]impl.Shift{shiftAt(0, 90, "till"), shiftAt(10, 20, "till"), shiftAt(89, 91, "till")}, freeWorkers(2), []int{0, 1, 0}, impl.ErrState, 2}, // not the one just ahead is it
		{[]impl.Shift{shiftAt(0, 90, "till"), shiftAt(0, 90, "till")}, []impl.Worker{workerOf("a", 90, 0, 1, "till")}, []int{0, 0}, impl.ErrState, 1},
		{[]impl.Shift{shiftAt(0, 90, "till"), shiftAt(0, 90, "t")}, []impl.Worker{workerOf("a", 90, 0, 1, "till")}, []int{0, 0}, impl.ErrKind, 1},
		{[]impl.Shift{shiftAt(0, 90, "till"), shiftAt(0, 90, "t")}, []impl.Worker{workerOf("a", week, week, 1, "till")}, []int{0, 0}, impl.ErrKind, 1},
	} {
		wantNoRoster(t, c.shifts, c.workers, c.who, c.code, c.at)
		if _, code, at := rosterByWords(c.shifts, c.workers, c.who); code != c.code || at != c.at {
			t.Errorf("%v: by the words %d, %d", c, code, at)
		}
		if _, code, at := rosterByMinutes(c.shifts, c.workers, c.who); code != c.code || at != c.at {
			t.Errorf("%v: by minutes %d, %d", c, code, at)
		}
	}
}

// Of all eight ways in which the three grounds can stand against a second shift the first ground is told.
func TestP22TheFirstGroundIsTold(t *testing.T) {
	for grounds := range 8 {
		w := workerOf("a", 20, 10, 1, "till", "bread")
		s := shiftAt(20, 30, "bread")
		want := impl.OK
		if grounds&1 != 0 {
			w.Most, want = 19, impl.ErrOver
		}
		if grounds&2 != 0 {
			w.Rest, want = 11, impl.ErrState
		}
		if grounds&4 != 0 {
			s.Skill, want = "wine", impl.ErrKind
		}
		shifts := []impl.Shift{shiftAt(0, 10, "till"), s}
		if got := wantRosterByWords(t, shifts, []impl.Worker{w}, []int{0, 0}); got != want {
			t.Errorf("%s: %d, want %d", rosterSaid(shifts, []impl.Worker{w}, []int{0, 0}), got, want)
		}
	}
}

// A worker has rested to the minute, and has not a minute earlier.
func TestP22RestToTheMinute(t *testing.T) {
	for _, c := range []struct{ end, rest int }{{10, 0}, {10, 1}, {10, 15}, {1, 0}, {1, 1}, {600, 660}, {1, impl.MaxWeek - 2}, {impl.MaxWeek - 1, 0}, {5000, 5079}, {impl.MaxWeek - 2, 1}} {
		for from := max(c.end+c.rest-20, 0); from < min(c.end+c.rest+20, impl.MaxWeek); from++ {
			shifts := []impl.Shift{shiftAt(0, c.end, "till"), shiftAt(from, impl.MaxWeek, "till")}
			workers := []impl.Worker{workerOf("a", impl.MaxWeek, c.rest, 1, "till")}
			if from < c.end {
				workers[0].Rest = 0 // ahead of the end, no rest helps
			}
			want := impl.OK
			if from < c.end+c.rest {
				want = impl.ErrState
			}
			if got := wantRosterByWords(t, shifts, workers, []int{0, 0}); got != want {
				t.Errorf("%s: %d, want %d", rosterSaid(shifts, workers, []int{0, 0}), got, want)
			}
		}
	}
	late := []impl.Shift{shiftAt(impl.MaxWeek-2, impl.MaxWeek-1, "till"), shiftAt(impl.MaxWeek-1, impl.MaxWeek, "till")}
	for _, rest := range []int{1, 2, impl.MaxWeek - 1, impl.MaxWeek} { // beyond the end of the week
		wantNoRoster(t, late, []impl.Worker{workerOf("a", 2, rest, 1, "till")}, []int{0, 0}, impl.ErrState, 1)
	}
}

// A worker's minutes together are Most to the minute; what others have does not count.
func TestP22MostToTheMinute(t *testing.T) {
	for count := 1; count <= impl.MaxShifts; count++ {
		for most := range 10*count + 10 {
			workers := []impl.Worker{workerOf("a", most, 10, 3, "till"), free("b", 1)}
			if most >= 10*count {
				wantRoster(t, apartShifts(count), workers, alike(0, count), rosterOf(30*count, alike(0, count)...), impl.OK, 0)
			} else {
				wantNoRoster(t, apartShifts(count), workers, alike(0, count), impl.ErrOver, most/10)
			}
			for place := range count {
				who := alike(0, count)
				who[place] = 1
				wantRosterByWords(t, apartShifts(count), workers, who)
			}
		}
	}
	week := []impl.Shift{shiftAt(0, 1, "till"), shiftAt(1, impl.MaxWeek, "till")}
	wantRoster(t, week, freeWorkers(1), []int{0, 0}, rosterOf(impl.MaxWeek, 0, 0), impl.OK, 0)
	wantNoRoster(t, week, []impl.Worker{workerOf("a", impl.MaxWeek-1, 0, 1, "till")}, []int{0, 0}, impl.ErrOver, 1)
}

// listsOfOtherLengths do not tell who has each of count shifts.
func listsOfOtherLengths(count int) [][]int {
	var lists [][]int
	for _, length := range []int{0, 1, 2, count - 1, count + 1, count + 2, 100, impl.MaxList} {
		if length < 0 || length == count {
			continue
		}
		for _, number := range []int{0, -1, 77, math.MinInt, math.MaxInt} {
			lists = append(lists, alike(number, length))
		}
	}
	return lists
}

func TestRostersThatAreWrong(t *testing.T) {
	for _, wrong := range wrongShifts() {
		wantNoRoster(t, []impl.Shift{wrong}, teaWorkers(), []int{0}, impl.ErrBad, 0)
		for place := range 3 {
			shifts := slices.Repeat([]impl.Shift{shiftAt(30, 60, "till")}, 3)
			shifts[place] = wrong
			wantNoRoster(t, shifts, teaWorkers(), []int{0, 1, 1}, impl.ErrBad, 0)
		}
	}
	for _, wrong := range wrongWorkers() {
		wantNoRoster(t, nil, []impl.Worker{wrong}, nil, impl.ErrBad, 0)
		for place := range 3 {
			workers := freeWorkers(3)
			workers[place] = wrong
			wantNoRoster(t, teaShifts(), workers, []int{0, 1, 1}, impl.ErrBad, 0)
			wantNoRoster(t, apartShifts(1), workers, []int{(place + 1) % 3}, impl.ErrBad, 0) // nobody asks for the wrong one
		}
	}
	wantNoRoster(t, []impl.Shift{shiftAt(1, 2, "till"), shiftAt(0, 1, "till")}, freeWorkers(2), []int{0, 1}, impl.ErrBad, 0)
	wantNoRoster(t, apartShifts(2), []impl.Worker{free("a", 1), free("a", 1)}, []int{0, 1}, impl.ErrBad, 0)
	for _, count := range []int{impl.MaxShifts + 1, impl.MaxShifts + 2, 100, impl.MaxList} {
		wantNoRoster(t, slices.Repeat([]impl.Shift{shiftAt(0, 1, "till")}, count), freeWorkers(5), numbersUpTo(count), impl.ErrBad, 0)
		wantNoRoster(t, make([]impl.Shift, count), freeWorkers(5), alike(0, count), impl.ErrBad, 0)
		wantNoRoster(t, apartShifts(5), freeWorkers(count), numbersUpTo(5), impl.ErrBad, 0)
		wantNoRoster(t, apartShifts(5), make([]impl.Worker, count), numbersUpTo(5), impl.ErrBad, 0)
	}
	for count := range impl.MaxShifts + 1 {
		for _, who := range listsOfOtherLengths(count) {
			wantNoRoster(t, apartShifts(count), freeWorkers(5), who, impl.ErrForm, 0)
			wantNoRoster(t, apartShifts(count), nil, who, impl.ErrForm, 0)
		}
	}
	for count := range impl.MaxWorkers + 1 {
		for _, number := range []int{math.MinInt, math.MinInt + 1, -count, -1, count, count + 1, impl.MaxWorkers, 77, math.MaxInt - 1, math.MaxInt} {
			if number >= 0 && number < count {
				continue
			}
			for place := range impl.MaxShifts {
				who := alike(0, impl.MaxShifts)
				who[place] = number
				at := place
				if count == 0 {
					at = 0 // without workers each number is none of theirs
				}
				wantNoRoster(t, apartShifts(impl.MaxShifts), freeWorkers(count), who, impl.ErrRange, at)
			}
		}
	}
}

func TestRostersWhichFaultComesFirst(t *testing.T) {
	wrongLists := [][]impl.Shift{{wrongShifts()[0]}, apartShifts(impl.MaxShifts + 1), {shiftAt(1, 2, "till"), shiftAt(0, 1, "till")}, make([]impl.Shift, impl.MaxList)}
	wrongCrews := [][]impl.Worker{{wrongWorkers()[0]}, freeWorkers(impl.MaxWorkers + 1), {free("a", 1), free("a", 1)}, make([]impl.Worker, impl.MaxList)}
	lists := append(listsOfOtherLengths(3), alike(0, 3), alike(-1, 3), alike(77, 3))
	for _, who := range lists {
		for _, shifts := range append(wrongLists, teaShifts()) {
			for _, workers := range wrongCrews {
				wantNoRoster(t, shifts, workers, who, impl.ErrBad, 0)
			}
			for _, count := range []int{impl.MaxList + 1, 2 * impl.MaxList} {
				wantNoRoster(t, shifts, make([]impl.Worker, count), who, impl.ErrLong, 0)
				wantNoRoster(t, shifts, freeWorkers(count), who, impl.ErrLong, 0)
			}
		}
		for _, workers := range append(wrongCrews, teaWorkers(), make([]impl.Worker, impl.MaxList+1)) {
			for _, count := range []int{impl.MaxList + 1, 2 * impl.MaxList} {
				wantNoRoster(t, make([]impl.Shift, count), workers, who, impl.ErrLong, 0)
				wantNoRoster(t, slices.Repeat([]impl.Shift{shiftAt(0, 1, "till")}, count), workers, who, impl.ErrLong, 0)
			}
		}
		for _, shifts := range wrongLists {
			wantNoRoster(t, shifts, teaWorkers(), who, impl.ErrBad, 0)
		}
	}
	for _, shifts := range append(wrongLists, nil, teaShifts(), make([]impl.Shift, impl.MaxList+1)) {
		for _, workers := range append(wrongCrews, nil, teaWorkers(), make([]impl.Worker, impl.MaxList+1)) {
			wantNoRoster(t, shifts, workers, alike(0, impl.MaxList+1), impl.ErrLong, 0)
			wantNoRoster(t, shifts, workers, alike(-1, 2*impl.MaxList), impl.ErrLong, 0)
		}
	}
	wantNoRoster(t, teaShifts(), teaWorkers(), []int{0, 0, 2}, impl.ErrState, 1) // in turn: what stands against the second comes ahead of a number that is none
	wantNoRoster(t, teaShifts(), teaWorkers(), []int{0, 2, 0}, impl.ErrRange, 1)
	wantNoRoster(t, teaShifts(), teaWorkers(), []int{0, -1, 0}, impl.ErrRange, 1)
	wantNoRoster(t, teaShifts(), teaWorkers(), []int{2, 0, 0}, impl.ErrRange, 0)
	wantNoRoster(t, teaShifts(), teaWorkers(), []int{1, 1, 2}, impl.ErrRange, 2)
	wantNoRoster(t, teaShifts(), teaWorkers(), []int{0, 0}, impl.ErrForm, 0)
	wantNoRoster(t, teaShifts(), teaWorkers(), []int{2, 2, 2, 2}, impl.ErrForm, 0)
}

func TestP22RostersAtTheEdges(t *testing.T) {
	for _, first := range edgeShifts() {
		for _, other := range edgeShifts() {
			shifts := []impl.Shift{first, other}
			for _, w := range edgeWorkers() {
				for _, v := range edgeWorkers() {
					for _, who := range [][]int{{0, 0}, {0, 1}, {1, 0}, {1, 1}} {
						wantRosterByWords(t, shifts, []impl.Worker{w, v}, who)
					}
				}
			}
		}
	}
	long := slices.Repeat([]impl.Shift{shiftAt(0, impl.MaxWeek, "till")}, impl.MaxWorkers)
	var workers []impl.Worker
	for _, name := range someNames(impl.MaxWorkers) {
		workers = append(workers, workerOf(name, impl.MaxWeek, impl.MaxWeek, 1000, "till"))
	}
	wantRoster(t, long, workers, numbersUpTo(5), rosterOf(5*impl.MaxWeek*1000, 0, 1, 2, 3, 4), impl.OK, 0)
}

// All lists of two and three small shifts and two workers, and of numbers that are none of theirs.
func TestP22EverySmallRoster(t *testing.T) {
	seen := map[int]int{}
	var all []impl.Shift
	for _, from := range []int{0, 1, 3} {
		for _, length := range []int{0, 1, 2} {
			for _, skill := range []string{"t", "u"} {
				all = append(all, shiftAt(from, from+length, skill))
			}
		}
	}
	for _, most := range []int{1, 2, 3} {
		for _, rest := range []int{0, 1, 2} {
			workers := []impl.Worker{workerOf("a", most, rest, 3, "t"), workerOf("b", 4-most, rest/2, 5, "u", "t")}
			for count := range 4 {
				least := 0
				if count < 3 {
					least = -1
				}
				eachCounts(count, 0, len(all)-1, func(numbers []int) {
					var shifts []impl.Shift
					for _, number := range numbers {
						shifts = append(shifts, all[number])
					}
					eachCounts(count, least, 1-least, func(who []int) { seen[wantRosterByWords(t, shifts, workers, who)]++ })
				})
			}
		}
	}
	if min(seen[impl.OK], seen[impl.ErrBad], seen[impl.ErrRange], seen[impl.ErrKind], seen[impl.ErrState], seen[impl.ErrOver]) < 100 {
		t.Error("too few of one code", seen)
	}
}

// someShifts and someWorkers are right, often so that not all lists go, and some do.
func someShifts(r *rand.Rand, count int) []impl.Shift {
	length := []int{2, 10, 60, 600}[r.IntN(4)]
	gap := []int{1, 5, 30, 600}[r.IntN(4)]
	skills := 1 + r.IntN(3)
	var shifts []impl.Shift
	from := r.IntN(100)
	for range count {
		shifts = append(shifts, shiftAt(from, from+1+r.IntN(length), fmt.Sprint("n", r.IntN(skills))))
		if r.IntN(4) > 0 {
			from += r.IntN(length + gap)
		}
	}
	return shifts
}

func someWorkers(r *rand.Rand, count int) []impl.Worker {
	wage := []int{0, 1, 3, 1000}[r.IntN(4)]
	rest := []int{0, 1, 12, 300}[r.IntN(4)]
	most := []int{30, 200, 2000, impl.MaxWeek}[r.IntN(4)]
	var workers []impl.Worker
	for _, name := range someNames(count) {
		skills := someNames(3)
		r.Shuffle(len(skills), func(i, j int) { skills[i], skills[j] = skills[j], skills[i] })
		workers = append(workers, workerOf(name, most/2+r.IntN(most/2+1), r.IntN(rest+1), r.IntN(wage+1), skills[:1+r.IntN(3)]...))
	}
	return workers
}

func TestP22RostersAgainstAWeekOfMinutes(t *testing.T) {
	r := fixed()
	seen := map[int]int{}
	for range 3000 {
		shifts, workers := someShifts(r, r.IntN(impl.MaxShifts+1)), someWorkers(r, 1+r.IntN(impl.MaxWorkers))
		var who []int
		for range shifts {
			who = append(who, r.IntN(len(workers)))
		}
		if len(who) > 0 && r.IntN(2) == 0 { // a list that comes farther
			who = goodStart(shifts, workers, who)
		}
		want, code, at := rosterByMinutes(shifts, workers, who)
		wantRoster(t, shifts, workers, who, want, code, at)
		wantRosterByWords(t, shifts, workers, who)
		seen[code]++
	}
	if min(seen[impl.OK], seen[impl.ErrKind], seen[impl.ErrState], seen[impl.ErrOver]) < 200 {
		t.Error("too few of one code", seen)
	}
}

// goodStart changes who shift by shift, as long as one of the workers can have the shift.
func goodStart(shifts []impl.Shift, workers []impl.Worker, who []int) []int {
	who = slices.Clone(who)
	for place := range who {
		_, code, at := rosterByWords(shifts, workers, who)
		for number := 0; code != impl.OK && at == place; number++ {
			if number == len(workers) {
				return who
			}
			who[place] = number
			_, code, at = rosterByWords(shifts, workers, who)
		}
	}
	return who
}

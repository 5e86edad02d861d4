package tests

import (
	"fmt"
	"math"
	"math/rand/v2"
	"slices"
	"testing"

	"loop.example/g00067/impl"
)

// loadsOf makes loads of pairs: Pallets and Extra.
func loadsOf(pairs ...[2]int) []impl.Load {
	var loads []impl.Load
	for _, pair := range pairs {
		loads = append(loads, impl.Load{Pallets: pair[0], Extra: pair[1]})
	}
	return loads
}

func loadsAlike(pallets, extra, count int) []impl.Load {
	return slices.Repeat(loadsOf([2]int{pallets, extra}), count)
}

// teaLoads are right; two trucks of 10 take 13 pallets and 7 of what is extra.
func teaLoads() []impl.Load { return loadsOf([2]int{5, 1}, [2]int{6, 9}, [2]int{2, 0}) }

func trucksCodeByWords(loads []impl.Load, truck int) int {
	switch {
	case len(loads) > 4096:
		return impl.ErrLong
	case len(loads) > 40:
		return impl.ErrMany
	case truck < 1 || truck > 100:
		return impl.ErrRange
	}
	for _, load := range loads {
		if load.Pallets < 0 || load.Pallets > 1000 || load.Extra < 0 || load.Extra > 1000 {
			return impl.ErrBad
		}
	}
	return impl.OK
}

// trucksByWords fills one pallet at a time, going round the loads until all of them were passed over in a row.
func trucksByWords(loads []impl.Load, truck int) ([]int, int, int) {
	if code := trucksCodeByWords(loads, truck); code != impl.OK {
		return nil, 0, code
	}
	var pallets []int
	trucks, room := 0, 0
	for _, load := range loads {
		pallets = append(pallets, load.Pallets)
		for range load.Pallets {
			if room == 0 {
				trucks++
				room = truck
			}
			room--
		}
	}
	for at, passed := 0, 0; room > 0 && passed < len(loads); at++ {
		place := at % len(loads)
		if pallets[place] == loads[place].Pallets+loads[place].Extra {
			passed++
			continue
		}
		pallets[place]++
		room--
		passed = 0
	}
	return pallets, trucks, impl.OK
}

func wantTrucks(t *testing.T, loads []impl.Load, truck int, want []int, wantTrucks, wantCode int) {
	t.Helper()
	pallets, trucks, code := impl.FillTrucks(loads, truck)
	if code != wantCode || trucks != wantTrucks || !slices.Equal(pallets, want) {
		t.Errorf("FillTrucks(%.300s, %d) = %.300s, %d, %d; want %.300s, %d, %d", fmt.Sprint(loads), truck, fmt.Sprint(pallets), trucks, code, fmt.Sprint(want), wantTrucks, wantCode)
	}
}

func wantNoTrucks(t *testing.T, loads []impl.Load, truck, code int) {
	t.Helper()
	wantTrucks(t, loads, truck, nil, 0, code)
}

func wantTrucksByWords(t *testing.T, loads []impl.Load, truck int) {
	t.Helper()
	pallets, trucks, code := trucksByWords(loads, truck)
	wantTrucks(t, loads, truck, pallets, trucks, code)
}

func trucksThatAreWrong() []int {
	return []int{math.MinInt, -100, -1, 0, impl.MaxTruck + 1, math.MaxInt}
}

func palletsThatAreWrong() []int {
	return []int{math.MinInt, math.MinInt + 1, -impl.MaxPallets, -1, impl.MaxPallets + 1, math.MaxInt - 1, math.MaxInt}
}

// someLoads often have few pallets and little extra, so that trucks stay that are not full.
func someLoads(r *rand.Rand, count int) []impl.Load {
	most := []int{2, 9, 60, impl.MaxPallets}[r.IntN(4)]
	extra := []int{0, 1, 3, 20, impl.MaxPallets}[r.IntN(5)]
	var loads []impl.Load
	for range count {
		loads = append(loads, impl.Load{Pallets: r.IntN(most + 1), Extra: r.IntN(extra + 1)})
	}
	return loads
}

func someTruck(r *rand.Rand) int {
	return []int{1, 2, 7, impl.MaxTruck - 1, impl.MaxTruck, 1 + r.IntN(impl.MaxTruck)}[r.IntN(6)]
}

func TestP18TrucksByHand(t *testing.T) {
	for _, c := range []struct {
		loads  []impl.Load
		truck  int
		want   []int
		trucks int
	}{
		{teaLoads(), 10, []int{6, 12, 2}, 2},
		{teaLoads(), 13, []int{5, 6, 2}, 1},  // full ahead of any Extra
		{teaLoads(), 12, []int{6, 15, 2}, 2}, // no Extra is left while there is room
		{teaLoads(), 14, []int{6, 6, 2}, 1},  // one round ends behind its first load
		{teaLoads(), 15, []int{6, 7, 2}, 1},  // one whole round
		{teaLoads(), 16, []int{6, 8, 2}, 1},  // the first load is passed over in the second round
		{teaLoads(), 1, []int{5, 6, 2}, 13},  // trucks of one pallet are always full
		{teaLoads(), 100, []int{6, 15, 2}, 1},
		{nil, 10, nil, 0}, // no loads
		{nil, 1, nil, 0},
		{loadsOf([2]int{0, 0}), 10, []int{0}, 0},                     // no pallets at all
		{loadsOf([2]int{0, 5}, [2]int{0, 1000}), 10, []int{0, 0}, 0}, // no trucks, so that no Extra has room
		{loadsOf([2]int{0, 5}, [2]int{1, 0}), 10, []int{5, 1}, 1},    // a load without Pallets has its Extra beside another
		{loadsOf([2]int{0, 50}, [2]int{1, 0}), 10, []int{9, 1}, 1},
		{loadsOf([2]int{1, 9}, [2]int{1, 9}, [2]int{1, 9}), 5, []int{2, 2, 1}, 1}, // a round that ends in its middle
		{loadsOf([2]int{1, 9}, [2]int{1, 9}, [2]int{1, 9}), 7, []int{3, 2, 2}, 1},
		{loadsOf([2]int{1, 9}, [2]int{1, 9}, [2]int{1, 9}), 9, []int{3, 3, 3}, 1},  // a round that ends with its last
		{loadsOf([2]int{1, 1}, [2]int{1, 9}, [2]int{1, 2}), 10, []int{2, 5, 3}, 1}, // those that have all are passed over
		{loadsOf([2]int{9, 1}, [2]int{0, 9}), 15, []int{10, 5}, 1},                 // not by how full a load is, but in their order
		{loadsOf([2]int{10, 5}), 10, []int{10}, 1},                                 // just full
		{loadsOf([2]int{11, 5}), 10, []int{16}, 2},                                 // one more than full; all Extra, and the truck is not full
		{loadsOf([2]int{11, 9}), 10, []int{20}, 2},                                 // Extra is just the room
		{loadsOf([2]int{11, 10}), 10, []int{20}, 2},                                // one more than the room
		{loadsOf([2]int{9, 0}), 10, []int{9}, 1},                                   // nothing to fill it with
		{loadsOf([2]int{1, 0}), 100, []int{1}, 1},
		{loadsOf([2]int{1, 1000}), 100, []int{100}, 1},
		{loadsOf([2]int{1000, 1000}), 1, []int{1000}, 1000},
		{loadsOf([2]int{1000, 1000}), 100, []int{1000}, 10},
		{loadsOf([2]int{1000, 1000}), 99, []int{1089}, 11}, // more than MaxPallets of one load
		{loadsOf([2]int{3, 1000}, [2]int{1000, 3}), 100, []int{97, 1003}, 11},
		{loadsAlike(1000, 1000, impl.MaxLoads), 1, alike(1000, impl.MaxLoads), 40000}, // the most trucks
		{loadsAlike(1000, 1000, impl.MaxLoads), 100, alike(1000, impl.MaxLoads), 400},
		{loadsAlike(0, 1000, impl.MaxLoads), 100, alike(0, impl.MaxLoads), 0},
		{loadsAlike(1, 1, impl.MaxLoads), 100, alike(2, impl.MaxLoads), 1},
		{loadsAlike(1, 2, impl.MaxLoads), 100, append(alike(3, 20), alike(2, 20)...), 1},
		{append(loadsAlike(0, 3, 39), loadsOf([2]int{1, 0})...), 40, append(alike(1, 39), 1), 1},
	} {
		wantTrucks(t, c.loads, c.truck, c.want, c.trucks, impl.OK)
		if words, trucks, code := trucksByWords(c.loads, c.truck); code != impl.OK || trucks != c.trucks || !slices.Equal(words, c.want) {
			t.Errorf("%v: by the words %v, %d, %d", c, words, trucks, code)
		}
	}
}

func TestTrucksAtTheEdges(t *testing.T) {
	for _, truck := range []int{1, 2, impl.MaxTruck - 1, impl.MaxTruck} {
		for _, count := range []int{0, 1, 2, impl.MaxLoads - 1, impl.MaxLoads} {
			for _, pallets := range []int{0, 1, impl.MaxPallets - 1, impl.MaxPallets} {
				for _, extra := range []int{0, 1, impl.MaxPallets - 1, impl.MaxPallets} {
					loads := loadsAlike(pallets, extra, count)
					wantTrucksByWords(t, loads, truck)
					if _, _, code := impl.FillTrucks(loads, truck); code != impl.OK {
						t.Errorf("FillTrucks of %d loads of %d and %d, %d: %d", count, pallets, extra, truck, code)
					}
				}
			}
		}
	}
}

func TestTrucksWhatIsWrong(t *testing.T) {
	for _, truck := range trucksThatAreWrong() {
		for _, loads := range [][]impl.Load{nil, {}, teaLoads(), loadsAlike(0, 0, 1), loadsAlike(1000, 1000, impl.MaxLoads)} {
			wantNoTrucks(t, loads, truck, impl.ErrRange)
		}
	}
	for _, number := range palletsThatAreWrong() {
		for place := range teaLoads() {
			for _, wrong := range loadsOf([2]int{number, 0}, [2]int{0, number}, [2]int{number, 5}, [2]int{5, number}, [2]int{number, number}, [2]int{number, -1}, [2]int{-1, number}) {
				loads := teaLoads()
				loads[place] = wrong
				for _, truck := range []int{1, 10, impl.MaxTruck} {
					wantNoTrucks(t, loads, truck, impl.ErrBad)
				}
			}
		}
		wantNoTrucks(t, loadsOf([2]int{number, 0}), 10, impl.ErrBad)
		wantNoTrucks(t, loadsOf([2]int{0, number}), 10, impl.ErrBad)
		wantNoTrucks(t, append(loadsAlike(1, 1, impl.MaxLoads-1), impl.Load{Pallets: 1, Extra: number}), 10, impl.ErrBad)
	}
}

// Faults come in the order in which the chapter names them.
func TestTrucksWhichFaultComesFirst(t *testing.T) {
	for _, truck := range append(trucksThatAreWrong(), 1, 10, impl.MaxTruck) {
		for _, number := range append(palletsThatAreWrong(), 0, 5, impl.MaxPallets) {
			for _, count := range []int{impl.MaxLoads + 1, impl.MaxLoads + 2, 1000, impl.MaxList} {
				wantNoTrucks(t, loadsAlike(number, 1, count), truck, impl.ErrMany)
				wantNoTrucks(t, loadsAlike(1, number, count), truck, impl.ErrMany)
			}
			for _, count := range []int{impl.MaxList + 1, 2 * impl.MaxList} {
				wantNoTrucks(t, loadsAlike(number, number, count), truck, impl.ErrLong)
			}
		}
	}
	for _, truck := range trucksThatAreWrong() {
		for _, number := range palletsThatAreWrong() {
			wantNoTrucks(t, loadsAlike(number, number, 1), truck, impl.ErrRange)
			wantNoTrucks(t, loadsAlike(number, number, impl.MaxLoads), truck, impl.ErrRange)
		}
	}
}

func TestP18EverySmallFilling(t *testing.T) {
	for count := range 4 {
		eachCounts(2*count, 0, 3, func(numbers []int) {
			var loads []impl.Load
			for place := range count {
				loads = append(loads, impl.Load{Pallets: numbers[2*place], Extra: numbers[2*place+1]})
			}
			for truck := 1; truck <= 10; truck++ {
				wantTrucksByWords(t, loads, truck)
			}
		})
	}
}

// fillingFault tells what of the promise a filling breaks.
func fillingFault(loads []impl.Load, truck int, pallets []int, trucks int) string {
	asked, sent, more := 0, 0, false
	if len(pallets) != len(loads) {
		return "not a number for each load"
	}
	for place, load := range loads {
		if pallets[place] < load.Pallets || pallets[place] > load.Pallets+load.Extra {
			return "a load has too few, or too many"
		}
		asked += load.Pallets
		sent += pallets[place]
		more = more || pallets[place] < load.Pallets+load.Extra
	}
	switch {
	case sent > trucks*truck:
		return "the trucks do not take them"
	case trucks > 0 && asked <= (trucks-1)*truck:
		return "one truck less would take all Pallets"
	case trucks == 0 && asked > 0:
		return "no trucks"
	case sent < trucks*truck && more:
		return "a truck is not full, and a load could have more"
	}
	return ""
}

// roundsFault: of two loads the one ahead has as much Extra as the other, or one more, unless it has all of its own; and likewise the one behind as much, or one less.
func roundsFault(loads []impl.Load, pallets []int) string {
	for ahead := range loads {
		for behind := ahead + 1; behind < len(loads); behind++ {
			first, second := pallets[ahead]-loads[ahead].Pallets, pallets[behind]-loads[behind].Pallets
			if first < second && first < loads[ahead].Extra {
				return fmt.Sprintf("load %d has more than load %d, which is ahead", behind, ahead)
			}
			if second < first-1 && second < loads[behind].Extra {
				return fmt.Sprintf("load %d was passed over for load %d", behind, ahead)
			}
		}
	}
	return ""
}

func TestP18TrucksAreAsFewAndAsFullAsCanBe(t *testing.T) {
	r := fixed()
	full, notFull, inTheMiddle := 0, 0, 0
	for range 12000 {
		loads, truck := someLoads(r, r.IntN(impl.MaxLoads+1)), someTruck(r)
		pallets, trucks, code := impl.FillTrucks(loads, truck)
		if code != impl.OK {
			t.Fatalf("FillTrucks(%v, %d): %d", loads, truck, code)
		}
		if fault := fillingFault(loads, truck, pallets, trucks); fault != "" {
			t.Fatalf("FillTrucks(%v, %d) = %v, %d: %s", loads, truck, pallets, trucks, fault)
		}
		if fault := roundsFault(loads, pallets); fault != "" {
			t.Fatalf("FillTrucks(%v, %d) = %v, %d: %s", loads, truck, pallets, trucks, fault)
		}
		wantTrucksByWords(t, loads, truck)
		sent, extra, could := 0, 0, 0
		for place, load := range loads {
			sent += pallets[place]
			extra += pallets[place] - load.Pallets
			could += load.Extra
		}
		switch {
		case sent < trucks*truck:
			notFull++
		case extra > 0 && extra < could:
			inTheMiddle++
		default:
			full++
		}
	}
	if min(full, notFull, inTheMiddle) < 1000 {
		t.Error("too few of one kind", full, notFull, inTheMiddle)
	}
}

// With more pallets in a truck there are never more trucks; each number of trucks takes all Pallets, and one less does not.
func TestP18EveryTruckOfSomeLoads(t *testing.T) {
	r := fixed()
	for range 60 {
		loads := someLoads(r, 1+r.IntN(impl.MaxLoads))
		ahead := math.MaxInt
		for truck := 1; truck <= impl.MaxTruck; truck++ {
			wantTrucksByWords(t, loads, truck)
			_, trucks, code := impl.FillTrucks(loads, truck)
			if code != impl.OK || trucks > ahead {
				t.Fatalf("FillTrucks(%v, %d): %d trucks, %d; lesser ones are %d", loads, truck, trucks, code, ahead)
			}
			ahead = trucks
		}
	}
}

// What the trucks take is a filling of its own: it needs as many trucks, and has nothing more to add than what stayed behind.
func TestP18WhatWasFilledStaysSo(t *testing.T) {
	r := fixed()
	for range 1000 {
		loads, truck := someLoads(r, 1+r.IntN(impl.MaxLoads)), someTruck(r)
		pallets, trucks, _ := impl.FillTrucks(loads, truck)
		var sent, left []impl.Load
		for place, load := range loads {
			sent = append(sent, impl.Load{Pallets: pallets[place]})
			left = append(left, impl.Load{Pallets: pallets[place], Extra: load.Pallets + load.Extra - pallets[place]})
		}
		if trucksCodeByWords(sent, truck) != impl.OK {
			continue // a load has more than MaxPallets then
		}
		wantTrucks(t, sent, truck, pallets, trucks, impl.OK)
		wantTrucks(t, left, truck, pallets, trucks, impl.OK)
	}
}

package tests

import (
	"math"
	"math/rand/v2"
	"slices"
	"testing"

	"loop.example/g00067/impl"
)

// needNumbers are the numbers of a Need, to be read or written one by one.
func needNumbers(n *impl.Need) []*int {
	return []*int{&n.Level, &n.Onhand, &n.Onorder, &n.Pack, &n.Minimum, &n.Space}
}

// packPlace is the place of Pack among needNumbers.
const packPlace = 3

func needOf(level, onhand, onorder, pack, minimum, space int) impl.Need {
	return impl.Need{Level: level, Onhand: onhand, Onorder: onorder, Pack: pack, Minimum: minimum, Space: space}
}

// milkNeed is right; 25 are there, and 25 are missing.
func milkNeed() impl.Need { return needOf(50, 20, 5, 6, 10, 100) }

func needByWords(n impl.Need) bool {
	for _, number := range needNumbers(&n) {
		if *number < 0 || *number > 100000 {
			return false
		}
	}
	return n.Pack >= 1
}

// orderByWords takes one pack more, or one less, as long as the words ask for it.
func orderByWords(n impl.Need) (int, bool, int) {
	if !needByWords(n) {
		return 0, false, impl.ErrBad
	}
	there := n.Onhand + n.Onorder
	if n.Level <= there {
		return 0, false, impl.OK
	}
	units := 0
	for there+units < n.Level || units < n.Minimum {
		units += n.Pack
	}
	cut := false
	for units > 0 && there+units > n.Space {
		units -= n.Pack
		cut = true
	}
	if units == 0 || units < n.Minimum {
		return 0, false, impl.ErrFull
	}
	return units, cut, impl.OK
}

func wantOrder(t *testing.T, n impl.Need, want int, wantCut bool, wantCode int) {
	t.Helper()
	if units, cut, code := impl.OrderFor(n); units != want || cut != wantCut || code != wantCode {
		t.Errorf("OrderFor(%+v) = %d, %v, %d; want %d, %v, %d", n, units, cut, code, want, wantCut, wantCode)
	}
}

func wantOrderByWords(t *testing.T, n impl.Need) {
	t.Helper()
	want, cut, code := orderByWords(n)
	wantOrder(t, n, want, cut, code)
	if right := impl.NeedOK(n); right != needByWords(n) {
		t.Errorf("NeedOK(%+v) = %v", n, right)
	}
}

// orderKind tells what became of an order, for counts of what tests have seen.
func orderKind(units int, cut bool, code int) string {
	switch {
	case code != impl.OK:
		return impl.CodeWord(code)
	case cut:
		return "cut short"
	case units == 0:
		return "nothing"
	}
	return "whole"
}

// someNeed is right; its numbers are near one another, so that all kinds of orders come of it.
func someNeed(r *rand.Rand) impl.Need {
	scale := []int{3, 20, 500, impl.MaxMany}[r.IntN(4)]
	var n impl.Need
	for _, number := range needNumbers(&n) {
		*number = r.IntN(scale + 1)
	}
	n.Onhand, n.Onorder = n.Onhand/3, n.Onorder/3
	n.Pack = 1 + n.Pack/(1+r.IntN(20))
	n.Pack = min(n.Pack, impl.MaxMany)
	n.Minimum /= 1 + r.IntN(4)
	if r.IntN(3) == 0 {
		n.Space = min(impl.MaxMany, n.Level+n.Pack)
	}
	return n
}

func TestOrdersBounds(t *testing.T) {
	got := []int{impl.MaxLoads, impl.MaxTruck, impl.MaxPallets, impl.MaxHolidays, impl.MaxSearch, impl.MaxMany, impl.MaxDay}
	if !slices.Equal(got, []int{40, 100, 1000, 60, 400, 100000, 100000}) {
		t.Error("constants", got)
	}
}

func TestP18OrdersByHand(t *testing.T) {
	const most = impl.MaxMany
	for _, c := range []struct {
		n     impl.Need
		units int
		cut   bool
		code  int
	}{
		{milkNeed(), 30, false, impl.OK},
		{needOf(26, 20, 5, 6, 10, 100), 12, false, impl.OK}, // one is missing; Minimum asks for two packs
		{needOf(25, 20, 5, 6, 10, 100), 0, false, impl.OK},  // just what is there
		{needOf(24, 20, 5, 6, 10, 100), 0, false, impl.OK},
		{needOf(0, 0, 0, 1, 0, 0), 0, false, impl.OK},
		{needOf(0, 20, 5, 6, 10, 0), 0, false, impl.OK}, // nothing is missing: what is there above Space is no fault
		{needOf(25, 20, 5, 6, 10, 3), 0, false, impl.OK},
		{needOf(26, 20, 5, 6, 10, 24), 0, false, impl.ErrFull}, // what is there is above Space
		{needOf(26, 20, 5, 6, 10, 0), 0, false, impl.ErrFull},
		{needOf(26, 20, 5, 6, 0, 17), 0, false, impl.ErrFull}, // by more than a pack
		{needOf(26, 20, 5, 6, 0, 25), 0, false, impl.ErrFull}, // there is no room at all
		{needOf(26, 20, 5, 6, 0, 30), 0, false, impl.ErrFull}, // a pack less one has room
		{needOf(26, 20, 5, 6, 0, 31), 6, false, impl.OK},      // just Space
		{needOf(26, 20, 5, 6, 0, 32), 6, false, impl.OK},
		{needOf(50, 20, 5, 6, 10, 55), 30, false, impl.OK}, // just Space
		{needOf(50, 20, 5, 6, 10, 54), 24, true, impl.OK},
		{needOf(50, 20, 5, 6, 10, 49), 24, true, impl.OK},
		{needOf(50, 20, 5, 6, 10, 48), 18, true, impl.OK},
		{needOf(50, 20, 5, 6, 10, 37), 12, true, impl.OK},
		{needOf(50, 20, 5, 6, 12, 37), 12, true, impl.OK},      // just Minimum
		{needOf(50, 20, 5, 6, 13, 37), 0, false, impl.ErrFull}, // less than Minimum
		{needOf(50, 20, 5, 6, 10, 36), 0, false, impl.ErrFull}, // one pack, less than Minimum
		{needOf(50, 20, 5, 6, 6, 36), 6, true, impl.OK},        // one pack
		{needOf(50, 20, 5, 6, 0, 30), 0, false, impl.ErrFull},  // none
		{needOf(26, 20, 5, 6, 18, 42), 0, false, impl.ErrFull}, // what is missing has room, Minimum has none
		{needOf(26, 20, 5, 6, 18, 43), 18, false, impl.OK},     // both have
		{needOf(50, 20, 5, 25, 25, 50), 25, false, impl.OK},    // one pack is just all of it
		{needOf(50, 20, 5, 25, 26, 100), 50, false, impl.OK},   // Minimum is one above a pack
		{needOf(50, 20, 5, 24, 0, 100), 48, false, impl.OK},    // what is missing is one above a pack
		{needOf(50, 20, 5, 26, 0, 100), 26, false, impl.OK},    // what is missing is one below a pack
		{needOf(50, 20, 5, 1, 0, 50), 25, false, impl.OK},      // packs of one
		{needOf(50, 20, 5, 1, 0, 49), 24, true, impl.OK},       // cut short by one
		{needOf(50, 20, 5, 1, 25, 49), 0, false, impl.ErrFull}, // that Minimum would not have
		{needOf(50, 20, 5, 1, 24, 49), 24, true, impl.OK},
		{needOf(50, 0, 0, 1, 0, 0), 0, false, impl.ErrFull}, // no Space at all
		{needOf(50, 25, 0, 6, 10, 100), 30, false, impl.OK}, // Onhand and Onorder count alike
		{needOf(50, 0, 25, 6, 10, 100), 30, false, impl.OK},
		{needOf(50, 0, 25, 6, 10, 54), 24, true, impl.OK},
		{needOf(1, 0, 0, most, 0, most), most, false, impl.OK}, // one pack of all
		{needOf(1, 0, 0, most, 0, most-1), 0, false, impl.ErrFull},
		{needOf(1, 0, 0, 1, most, most), most, false, impl.OK},
		{needOf(1, 0, 0, 1, most, most-1), 0, false, impl.ErrFull},
		{needOf(most, 0, 0, 1, 0, most), most, false, impl.OK},
		{needOf(most, 0, 0, 1, 0, most-1), most - 1, true, impl.OK},
		{needOf(most, 0, 0, most-1, 0, most), most - 1, true, impl.OK}, // two packs have no room, one has
		{needOf(most, 0, 0, most-1, most, most), 0, false, impl.ErrFull},
		{needOf(most, 0, 0, most, most, most), most, false, impl.OK},
		{needOf(most, most, most, most, most, most), 0, false, impl.OK},
		{needOf(most, most, 0, 1, 0, 0), 0, false, impl.OK},
		{needOf(most, most-1, 0, 1, 0, most), 1, false, impl.OK},
		{needOf(most, most-1, 0, 1, 0, most-1), 0, false, impl.ErrFull},
		{needOf(5, 0, 0, 0, 0, 9), 0, false, impl.ErrBad},
		{needOf(0, 0, 0, 0, 0, 0), 0, false, impl.ErrBad},
	} {
		wantOrder(t, c.n, c.units, c.cut, c.code)
		if units, cut, code := orderByWords(c.n); units != c.units || cut != c.cut || code != c.code {
			t.Errorf("%+v: by the words %d, %v, %d", c, units, cut, code)
		}
	}
}

func TestNeedsAtTheEdges(t *testing.T) {
	for _, base := range []impl.Need{milkNeed(), needOf(50, 20, 5, 6, 10, 40), needOf(1, 0, 0, 1, 0, 1), needOf(0, 0, 0, 1, 0, 0), needOf(9, impl.MaxMany, impl.MaxMany, impl.MaxMany, impl.MaxMany, 0)} {
		for place := range needNumbers(&base) {
			for _, number := range []int{0, 1, impl.MaxMany - 1, impl.MaxMany} {
				n := base
				*needNumbers(&n)[place] = number
				right := place != packPlace || number > 0
				if impl.NeedOK(n) != right {
					t.Errorf("NeedOK(%+v) = %v", n, !right)
				}
				wantOrderByWords(t, n)
			}
			for _, number := range []int{math.MinInt, math.MinInt + 1, -impl.MaxMany, -1, impl.MaxMany + 1, math.MaxInt - 1, math.MaxInt} {
				n := base
				*needNumbers(&n)[place] = number
				if impl.NeedOK(n) {
					t.Errorf("NeedOK(%+v) = true", n)
				}
				wantOrder(t, n, 0, false, impl.ErrBad)
			}
		}
	}
	if impl.NeedOK(impl.Need{}) {
		t.Error("a Need without a Pack is wrong")
	}
	if !impl.NeedOK(impl.Need{Pack: 1}) {
		t.Error("a Need of noughts and a Pack is right")
	}
}

// What is wrong is found though nothing is missing, or there is no room.
func TestWrongNeedsComeAheadOfAllElse(t *testing.T) {
	for _, base := range []impl.Need{needOf(0, 9, 9, 1, 0, 100), needOf(50, 20, 5, 6, 10, 0)} {
		for place := range needNumbers(&base) {
			for _, number := range []int{math.MinInt, -1, impl.MaxMany + 1, math.MaxInt} {
				for other := range needNumbers(&base) {
					n := base
					*needNumbers(&n)[place] = number
					*needNumbers(&n)[other] = number
					wantOrder(t, n, 0, false, impl.ErrBad)
				}
			}
		}
		base.Pack = 0
		wantOrder(t, base, 0, false, impl.ErrBad)
	}
}

func TestP18EverySmallNeed(t *testing.T) {
	seen := map[string]int{}
	eachCounts(6, 0, 8, func(numbers []int) {
		var n impl.Need
		for place, number := range needNumbers(&n) {
			*number = numbers[place]
		}
		wantOrderByWords(t, n)
		seen[orderKind(impl.OrderFor(n))]++
	})
	for _, kind := range []string{"nothing", "whole", "cut short", "full", "bad"} {
		if seen[kind] < 1000 {
			t.Error("too few of one kind", kind, seen)
		}
	}
}

// A step around each bound: what is missing, Minimum and the room are some packs, one unit more, or one less.
func TestP18OrdersAroundEachBound(t *testing.T) {
	seen := map[string]int{}
	near := func(pack int) []int {
		var list []int
		for packs := range 4 {
			list = append(list, packs*pack-1, packs*pack, packs*pack+1)
		}
		return list
	}
	for _, pack := range []int{1, 2, 7, 1000, 33333} {
		for _, there := range []int{0, 1, pack, 50} {
			for _, missing := range near(pack) {
				for _, minimum := range near(pack) {
					for _, room := range near(pack) {
						n := needOf(there+missing, there/2, there-there/2, pack, minimum, there+room)
						wantOrderByWords(t, n)
						seen[orderKind(impl.OrderFor(n))]++
					}
				}
			}
		}
	}
	for _, kind := range []string{"nothing", "whole", "cut short", "full", "bad"} {
		if seen[kind] < 500 {
			t.Error("too few of one kind", kind, seen)
		}
	}
}

// orderFault tells what of the promise an order of a right Need breaks.
func orderFault(n impl.Need, units int, cut bool, code int) string {
	there := n.Onhand + n.Onorder
	missing := n.Level - there
	enough := func(units int) bool { return units >= missing && units >= n.Minimum }
	fits := func(units int) bool { return there+units <= n.Space }
	switch {
	case code == impl.ErrFull:
		if missing <= 0 {
			return "nothing was missing"
		}
		if least := max(n.Pack, (n.Minimum+n.Pack-1)/n.Pack*n.Pack); fits(least) {
			return "there was room"
		}
		return ""
	case code != impl.OK:
		return "no such code"
	case missing <= 0:
		if units != 0 || cut {
			return "nothing is missing"
		}
		return ""
	case units%n.Pack != 0 || units < n.Pack:
		return "no whole packs"
	case !fits(units):
		return "no room"
	case units < n.Minimum:
		return "less than Minimum"
	case cut && enough(units):
		return "that is enough, and not cut short"
	case cut && fits(units+n.Pack):
		return "one pack more has room"
	case !cut && !enough(units):
		return "not enough"
	case !cut && enough(units-n.Pack):
		return "one pack less is enough"
	}
	return ""
}

func TestP18OrdersAreWholePacksHaveRoomAndTheirMinimum(t *testing.T) {
	r := fixed()
	seen := map[string]int{}
	for range 60000 {
		n := someNeed(r)
		if !impl.NeedOK(n) {
			t.Fatalf("NeedOK(%+v) = false", n)
		}
		units, cut, code := impl.OrderFor(n)
		if fault := orderFault(n, units, cut, code); fault != "" {
			t.Fatalf("OrderFor(%+v) = %d, %v, %d: %s", n, units, cut, code, fault)
		}
		seen[orderKind(units, cut, code)]++
		if n.Level <= 1000 {
			wantOrderByWords(t, n)
		}
	}
	for _, kind := range []string{"nothing", "whole", "cut short", "full"} {
		if seen[kind] < 2000 {
			t.Error("too few of one kind", kind, seen)
		}
	}
}

func TestP18WhatIsOnHandAndOnOrderCountsTogether(t *testing.T) {
	r := fixed()
	for range 2000 {
		n := someNeed(r)
		units, cut, code := impl.OrderFor(n)
		there := n.Onhand + n.Onorder
		for _, onhand := range []int{0, there, r.IntN(there + 1)} {
			other := n
			other.Onhand, other.Onorder = onhand, there-onhand
			wantOrder(t, other, units, cut, code)
		}
	}
}

// What was ordered is on order then: another order is of nothing, unless it was cut short; then there is no room for a pack.
func TestP18AnOrderIsDoneOnce(t *testing.T) {
	r := fixed()
	again := 0
	for range 5000 {
		n := someNeed(r)
		units, cut, code := impl.OrderFor(n)
		n.Onorder += units
		if code != impl.OK || !impl.NeedOK(n) {
			continue
		}
		if cut {
			wantOrder(t, n, 0, false, impl.ErrFull)
			again++
		} else {
			wantOrder(t, n, 0, false, impl.OK)
		}
	}
	if again < 100 {
		t.Error("too few that were cut short", again)
	}
}

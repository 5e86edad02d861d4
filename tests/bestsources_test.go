package tests

import (
	"fmt"
	"slices"
	"testing"

	"loop.example/g00067/impl"
)

// bestSendingBySearch looks at all From from the least list on; of those that are as good the first is the least.
func bestSendingBySearch(sources []impl.Source, wanted []impl.Stocked) (impl.Sourcing, int) {
	if code := sourcesCodeByWords(sources, wanted); code != impl.OK {
		return impl.Sourcing{}, code
	}
	if len(wanted) == 0 {
		return impl.Sourcing{}, impl.OK
	}
	if len(sources) == 0 {
		return impl.Sourcing{}, impl.ErrNone
	}
	best, bestCode := impl.Sourcing{}, impl.ErrNone
	eachCounts(len(wanted), 0, len(sources)-1, func(from []int) {
		sending, code := sendingByWords(sources, wanted, from)
		if code != impl.OK {
			return
		}
		if bestCode != impl.OK || sending.Cost < best.Cost || sending.Cost == best.Cost && sending.Shipments < best.Shipments {
			best, bestCode = sending, impl.OK
		}
	})
	return best, bestCode
}

// bestBySets looks at all sets of sources, and tells what the best one costs and how many there are in it.
func bestBySets(sources []impl.Source, wanted []impl.Stocked) (cost, shipments int, found bool) {
	for set := range 1 << len(sources) {
		sum, count := 0, 0
		has := make([]bool, len(wanted))
		for number, source := range sources {
			if set>>number&1 == 0 {
				continue
			}
			sum += source.Ship
			count++
			for place, entry := range wanted {
				has[place] = has[place] || unitsThere(source, entry.Article) >= entry.Units
			}
		}
		if !slices.Contains(has, false) && (!found || sum < cost || sum == cost && count < shipments) {
			cost, shipments, found = sum, count, true
		}
	}
	return cost, shipments, found
}

func wantBestSending(t *testing.T, sources []impl.Source, wanted []impl.Stocked, want impl.Sourcing, wantCode int) {
	t.Helper()
	got, code := impl.BestSource(sources, wanted)
	if code != wantCode || !sameSending(got, want) {
		t.Errorf("BestSource%s = %+v, %d; want %+v, %d", sendingSaid(sources, wanted, nil), got, code, want, wantCode)
	}
}

func wantNoBestSending(t *testing.T, sources []impl.Source, wanted []impl.Stocked, code int) {
	t.Helper()
	wantBestSending(t, sources, wanted, impl.Sourcing{}, code)
}

func wantBestSendingBySearch(t *testing.T, sources []impl.Source, wanted []impl.Stocked) int {
	t.Helper()
	want, code := bestSendingBySearch(sources, wanted)
	wantBestSending(t, sources, wanted, want, code)
	return code
}

// shippedFor are sources that have one of each article n0, n1, .. and differ in what they ship for.
func shippedFor(ships ...int) []impl.Source {
	sources := fullSources(len(ships), impl.MaxWanted, 1)
	for number, ship := range ships {
		sources[number].Ship = ship
	}
	return sources
}

func TestP24BestSendingsByHand(t *testing.T) {
	one := func(name string, ship int, articles ...string) impl.Source {
		source := sourceOf(name, ship)
		for _, article := range articles {
			source.Stock = append(source.Stock, stocked(article, 1))
		}
		return source
	}
	abc := stockedOf(stocked("a", 1), stocked("b", 1), stocked("c", 1))
	more := webWanted()
	more[0].Units = 6
	for _, c := range []struct {
		what    string
		sources []impl.Source
		wanted  []impl.Stocked
		want    impl.Sourcing
	}{
		{"one shipment, and two for as much", webSources(), webWanted(), sendingOf(1, 300, 0, 0)},
		{"the hub has too little", webSources(), more, sendingOf(2, 300, 1, 2)},
		{"one entry", webSources(), webWanted()[:1], sendingOf(1, 120, 1)},
		{"just enough", webSources(), stockedOf(stocked("b", 2)), sendingOf(1, 180, 2)},
		{"one less", webSources(), stockedOf(stocked("b", 3)), sendingOf(1, 300, 0)},
		{"the last one is cheapest", shippedFor(5, 4, 3, 2, 1), fullStock(5, 1), sendingOf(1, 1, 4, 4, 4, 4, 4)},
		{"all are as good", shippedFor(5, 5, 5, 5, 5, 5), fullStock(5, 1), sendingOf(1, 5, 0, 0, 0, 0, 0)},
		{"all for nothing", shippedFor(0, 0, 0, 0, 0, 0), fullStock(5, 1), sendingOf(1, 0, 0, 0, 0, 0, 0)}, // more shipments would cost as much
		{"some for nothing", shippedFor(3, 0, 2, 0, 1, 0), fullStock(5, 1), sendingOf(1, 0, 1, 1, 1, 1, 1)},
		{"as dear as can be", shippedFor(impl.MaxCost, impl.MaxCost), fullStock(5, 1), sendingOf(1, impl.MaxCost, 0, 0, 0, 0, 0)},
		{"two cheap ones for less than a dear one", sourcesOf(one("x", 100, "a", "b", "c"), one("y", 49, "a", "c"), one("z", 50, "b")), abc, sendingOf(2, 99, 1, 2, 1)},
		{"two cheap ones for as much as a dear one", sourcesOf(one("y", 50, "a", "c"), one("z", 50, "b"), one("x", 100, "a", "b", "c")), abc, sendingOf(1, 100, 2, 2, 2)},
		{"two cheap ones for more than a dear one", sourcesOf(one("y", 51, "a", "c"), one("z", 50, "b"), one("x", 100, "a", "b", "c")), abc, sendingOf(1, 100, 2, 2, 2)},
		{"three for nothing, two for nothing", sourcesOf(one("x", 0, "a"), one("y", 0, "b"), one("z", 0, "c", "a")), abc, sendingOf(2, 0, 2, 1, 2)}, // though 0, 1, 2 is less
		{"two and two: the least list", sourcesOf(one("x", 1, "a"), one("y", 1, "b", "c"), one("z", 1, "a", "b")), abc, sendingOf(2, 2, 0, 1, 1)},
		{"the least list within one set", sourcesOf(one("x", 1, "a", "b"), one("y", 1, "c", "a", "b")), abc[:2], sendingOf(1, 1, 0, 0)},
		{"both are needed: the least list", sourcesOf(one("y", 1, "c", "b"), one("x", 1, "a", "b")), abc, sendingOf(2, 2, 1, 0, 0)},
		{"what is paid already costs no more", sourcesOf(one("x", 10, "a", "b", "c"), one("y", 1, "b"), one("z", 2, "c")), abc, sendingOf(1, 10, 0, 0, 0)},
		{"the cheapest for each is dearest together", sourcesOf(one("x", 5, "a"), one("y", 5, "b"), one("z", 5, "c"), one("w", 6, "a", "b", "c")), abc, sendingOf(1, 6, 3, 3, 3)},
		{"each from another", sourcesOf(one("x", 5, "c"), one("y", 6, "b"), one("z", 7, "a")), abc, sendingOf(3, 18, 2, 1, 0)},
	} {
		wantBestSending(t, c.sources, c.wanted, c.want, impl.OK)
		wantSending(t, c.sources, c.wanted, c.want.From, c.want, impl.OK)
		if sending, code := bestSendingBySearch(c.sources, c.wanted); code != impl.OK || !sameSending(sending, c.want) {
			t.Errorf("%s: by a search %v, %d", c.what, sending, code)
		}
	}
}

func TestP24NothingWantedIsSentForNothing(t *testing.T) {
	for _, sources := range [][]impl.Source{nil, {}, webSources(), sourcesOf(sourceOf("s", 0)), fullSources(impl.MaxSources, impl.MaxKinds, impl.MaxMany)} {
		wantBestSending(t, sources, nil, impl.Sourcing{}, impl.OK)
		wantBestSending(t, sources, []impl.Stocked{}, impl.Sourcing{}, impl.OK)
	}
}

func TestP24NoWayToSend(t *testing.T) {
	for _, c := range []struct {
		sources []impl.Source
		wanted  []impl.Stocked
	}{
		{nil, webWanted()}, // no sources
		{nil, fullStock(5, 1)},
		{sourcesOf(sourceOf("s", 0)), webWanted()},
		{webSources(), stockedOf(stocked("c", 1))},
		{webSources(), append(webWanted(), stocked("c", 1))}, // the last entry
		{webSources(), append(stockedOf(stocked("c", 1)), webWanted()...)},
		{webSources(), stockedOf(stocked("a", 10))},
		{webSources(), stockedOf(stocked("a", 9), stocked("b", 6))},
		{sourcesOf(sourceOf("s", 1, stocked("a", 5)), sourceOf("t", 1, stocked("a", 5))), stockedOf(stocked("a", 6))}, // together they have enough, but an entry comes from one
		{fullSources(impl.MaxSources, impl.MaxKinds, impl.MaxMany-1), fullStock(impl.MaxWanted, impl.MaxMany)},
		{fullSources(impl.MaxSources, impl.MaxWanted-1, impl.MaxMany), fullStock(impl.MaxWanted, 1)},
		{sourcesOf(sourceOf("s", 1, stocked("a", 0))), stockedOf(stocked("a", 1))},
	} {
		wantNoBestSending(t, c.sources, c.wanted, impl.ErrNone)
		wantBestSendingBySearch(t, c.sources, c.wanted)
	}
	wantBestSending(t, fullSources(impl.MaxSources, impl.MaxKinds, impl.MaxMany), fullStock(impl.MaxWanted, impl.MaxMany), sendingOf(1, 0, 0, 0, 0, 0, 0), impl.OK)
}

func TestP24BestSendingsThatAreWrong(t *testing.T) {
	for _, wanted := range append(rightWanted(), wrongWanted()[:8]...) {
		for _, sources := range wrongListsOfSources() {
			if len(wanted) <= impl.MaxList {
				wantNoBestSending(t, sources, wanted, impl.ErrBad)
			}
		}
		for _, sources := range longListsOfSources() {
			wantNoBestSending(t, sources, wanted, impl.ErrLong)
		}
	}
	for _, sources := range [][]impl.Source{nil, webSources(), fullSources(impl.MaxSources, 1, 1), make([]impl.Source, 3), fullSources(impl.MaxSources+1, 1, 1)} {
		for _, wanted := range wrongWanted() {
			if len(wanted) <= impl.MaxList {
				wantNoBestSending(t, sources, wanted, impl.ErrBad)
			} else {
				wantNoBestSending(t, sources, wanted, impl.ErrLong)
			}
		}
		for _, wanted := range longWanted() {
			wantNoBestSending(t, sources, wanted, impl.ErrLong)
		}
	}
}

// All small sources: of one, two or three, each of several stocks and ships.
func TestP24EverySmallBestSending(t *testing.T) {
	var kinds []impl.Source
	for ship := range 3 {
		for stock := range 9 {
			kinds = append(kinds, sourceOf("", ship, stocked("a", stock%3), stocked("b", stock/3)))
		}
	}
	seen := map[int]int{}
	for count := range 4 {
		eachCounts(count, 0, len(kinds)-1, func(places []int) {
			var sources []impl.Source
			for number, place := range places {
				sources = append(sources, kinds[place])
				sources[number].Name = fmt.Sprint("n", number)
			}
			for _, wanted := range [][]impl.Stocked{nil, {stocked("a", 1)}, {stocked("a", 1), stocked("b", 2)}} {
				seen[wantBestSendingBySearch(t, sources, wanted)]++
			}
		})
	}
	if min(seen[impl.OK], seen[impl.ErrNone]) < 1000 {
		t.Error("too few of one code", seen)
	}
}

func TestP24NoWayToSendCostsLess(t *testing.T) {
	r := fixed()
	seen := map[string]int{}
	for round := range 6000 {
		sources := someSources(r, r.IntN(impl.MaxSources), 6, 3, 1+r.IntN(6))
		wanted := someWanted(r, r.IntN(impl.MaxWanted), 6, 1+r.IntN(2))
		if round%100 == 0 {
			sources, wanted = someSources(r, impl.MaxSources, 6, 4, 5), someWanted(r, impl.MaxWanted, 6, 1)
		}
		code := wantBestSendingBySearch(t, sources, wanted)
		cost, shipments, found := bestBySets(sources, wanted)
		best, _ := impl.BestSource(sources, wanted)
		if found != (code == impl.OK) || best.Cost != cost || best.Shipments != shipments {
			t.Fatalf("BestSource%s = %v, %d; by sets of sources %d, %d, %v", sendingSaid(sources, wanted, nil), best, code, cost, shipments, found)
		}
		seen[impl.CodeWord(code)]++
		if code != impl.OK {
			continue
		}
		wantSending(t, sources, wanted, best.From, best, impl.OK)
		if len(sources) == 0 || len(wanted) == 0 || round%100 == 0 {
			continue
		}
		eachCounts(len(wanted), 0, len(sources)-1, func(from []int) { // of any other way something is worse
			other, code := impl.SourceOf(sources, wanted, from)
			switch {
			case code != impl.OK || slices.Equal(from, best.From):
			case other.Cost != best.Cost:
				seen["dearer"]++
				if other.Cost < best.Cost {
					t.Fatalf("BestSource%s = %v, but %v costs less", sendingSaid(sources, wanted, nil), best, other)
				}
			case other.Shipments != best.Shipments:
				seen["more shipments"]++
				if other.Shipments < best.Shipments {
					t.Fatalf("BestSource%s = %v, but %v has fewer shipments", sendingSaid(sources, wanted, nil), best, other)
				}
				if slices.Compare(from, best.From) < 0 {
					seen["more shipments, a lesser list"]++
				}
			default:
				seen["a greater list"]++
				if slices.Compare(from, best.From) < 0 {
					t.Fatalf("BestSource%s = %v, but %v is less", sendingSaid(sources, wanted, nil), best, other)
				}
			}
		})
	}
	for _, kind := range []string{"ok", "none", "dearer", "more shipments", "more shipments, a lesser list", "a greater list"} {
		if seen[kind] < 100 {
			t.Error("too few of one kind", kind, seen)
		}
	}
}

// A source more, more units, less to ship for, an entry less that is wanted: none of them makes it dearer.
func TestP24WhatMoreMakesItNoDearer(t *testing.T) {
	r := fixed()
	cheaper, opened := 0, 0
	for range 3000 {
		sources, wanted := someSources(r, 1+r.IntN(impl.MaxSources), 6, 3, 6), someWanted(r, 1+r.IntN(impl.MaxWanted), 6, 2)
		last := len(sources) - 1
		all, code := impl.BestSource(sources, wanted)
		less, lessCode := impl.BestSource(sources[:last], wanted)
		if lessCode == impl.OK && (code != impl.OK || all.Cost > less.Cost || all.Cost == less.Cost && all.Shipments > less.Shipments) {
			t.Fatalf("BestSource%s = %v, %d; without the last source %v", sendingSaid(sources, wanted, nil), all, code, less)
		}
		if lessCode == impl.OK && all.Cost < less.Cost {
			cheaper++
		}
		if lessCode == impl.ErrNone && code == impl.OK {
			opened++
		}
		if code != impl.OK {
			continue
		}
		more := slices.Clone(sources)
		at := r.IntN(len(more))
		more[at].Ship = r.IntN(more[at].Ship + 1)
		more[at].Stock = fullStock(3, 1)
		for _, entry := range sources[at].Stock {
			more[at].Stock = append(more[at].Stock, stocked(entry.Article, entry.Units+r.IntN(3)))
		}
		after, afterCode := impl.BestSource(more, wanted)
		if afterCode != impl.OK || after.Cost > all.Cost {
			t.Fatalf("BestSource%s = %v, %d; with %v %v", sendingSaid(more, wanted, nil), after, afterCode, sources[at], all)
		}
		fewer := slices.Delete(slices.Clone(wanted), len(wanted)/2, len(wanted)/2+1)
		if after, afterCode := impl.BestSource(sources, fewer); afterCode != impl.OK || after.Cost > all.Cost {
			t.Fatalf("BestSource%s = %v, %d; with %v wanted %v", sendingSaid(sources, fewer, nil), after, afterCode, wanted, all)
		}
	}
	if min(cheaper, opened) < 50 {
		t.Error("too few of one kind", cheaper, opened)
	}
}

// Other names, stocks in another order, ships that are all as many times as high: the same list. Sources in another order: the same Cost.
func TestP24OtherSourcesAlike(t *testing.T) {
	r := fixed()
	for range 1500 {
		sources, wanted := someSources(r, r.IntN(impl.MaxSources+1), 6, 3, 6), someWanted(r, r.IntN(impl.MaxWanted+1), 6, 2)
		best, code := impl.BestSource(sources, wanted)
		for number := range sources {
			sources[number].Name += "_"
			sources[number].Ship *= 7
			slices.Reverse(sources[number].Stock)
		}
		best.Cost *= 7
		wantBestSending(t, sources, wanted, best, code)
		slices.Reverse(sources)
		turned, turnedCode := impl.BestSource(sources, wanted)
		if turnedCode != code || turned.Cost != best.Cost || turned.Shipments != best.Shipments {
			t.Fatalf("BestSource%s = %v, %d; the other way round %v, %d", sendingSaid(sources, wanted, nil), turned, turnedCode, best, code)
		}
	}
}

// As many sources and entries as there may be, with ships that let each way be looked at.
func TestP24TheGreatestSendings(t *testing.T) {
	for _, ships := range [][]int{{0, 0, 0, 0, 0, 0}, {6, 5, 4, 3, 2, 1}, {1, 2, 3, 4, 5, 6}, {impl.MaxCost, impl.MaxCost, impl.MaxCost, impl.MaxCost, impl.MaxCost, impl.MaxCost}, {impl.MaxCost, 999999, impl.MaxCost, 0, 1, 999999}} {
		sources := shippedFor(ships...)
		for number := range sources {
			sources[number].Stock = append(sources[number].Stock, fullStock(impl.MaxKinds, 1)[impl.MaxWanted:]...)
		}
		wantBestSendingBySearch(t, sources, fullStock(impl.MaxWanted, 1))
		for number := range sources {
			sources[number].Stock = slices.Delete(sources[number].Stock, number%impl.MaxWanted, number%impl.MaxWanted+1)
		}
		wantBestSendingBySearch(t, sources, fullStock(impl.MaxWanted, 1))
	}
}

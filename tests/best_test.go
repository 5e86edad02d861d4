package tests

import (
	"cmp"
	"fmt"
	"math/rand/v2"
	"slices"
	"testing"

	"loop.example/g00067/impl"
)

// usesThereAre are all uses that may be made of one deal or another: each choice of units is asked what the document asks of a use.
func usesThereAre(units []impl.Unit, deals []impl.Deal) []impl.Use {
	var uses []impl.Use
	for d, deal := range deals {
		for choice := range 1 << len(units) {
			var numbers, prices []int
			fits := true
			for u, unit := range units {
				if choice>>u&1 == 1 {
					numbers, prices = append(numbers, u), append(prices, unit.Price)
					fits = fits && slices.Contains(deal.Articles, unit.Article)
				}
			}
			if fits && len(numbers) == deal.Need {
				uses = append(uses, impl.Use{Deal: d, Saves: savesByWords(deal, prices), Units: numbers})
			}
		}
	}
	return uses
}

// eachWay takes or leaves each of the uses, in whichever order they stand.
func eachWay(deals []impl.Deal, uses []impl.Use, see func(way []impl.Use)) {
	taken, spent, way := map[int]int{}, map[int]int{}, []impl.Use{}
	var from func(at int)
	from = func(at int) {
		if at == len(uses) {
			see(way)
			return
		}
		from(at + 1)
		use := uses[at]
		if deals[use.Deal].Once && spent[use.Deal] > 0 || slices.ContainsFunc(use.Units, func(u int) bool { return taken[u] > 0 }) {
			return
		}
		for _, u := range use.Units {
			taken[u]++
		}
		spent[use.Deal]++
		way = append(way, use)
		from(at + 1)
		way = way[:len(way)-1]
		spent[use.Deal]--
		for _, u := range use.Units {
			taken[u]--
		}
	}
	from(0)
}

func savedBy(way []impl.Use) int {
	saved := 0
	for _, use := range way {
		saved += use.Saves
	}
	return saved
}

// lowestIn is the use of which the unit is the lowest.
func lowestIn(way []impl.Use, unit int) (impl.Use, bool) {
	for _, use := range way {
		if use.Units[0] == unit {
			return use, true
		}
	}
	return impl.Use{}, false
}

// comesAhead goes unit by unit, by the document's last sentences on Best.
func comesAhead(a, b []impl.Use, count int) bool {
	inLower := map[int]int{}
	for unit := range count {
		if inLower[unit] > 0 {
			continue
		}
		useA, inA := lowestIn(a, unit)
		useB, inB := lowestIn(b, unit)
		switch {
		case inA != inB:
			return !inA
		case !inA:
			continue
		case useA.Deal != useB.Deal:
			return useA.Deal < useB.Deal
		case !slices.Equal(useA.Units, useB.Units):
			return slices.Compare(useA.Units, useB.Units) < 0
		}
		for _, u := range useA.Units {
			inLower[u]++
		}
	}
	return false
}

// bestByWords looks at all ways there are; it tells how many of them are best, too.
func bestByWords(units []impl.Unit, deals []impl.Deal) (impl.Bargain, int) {
	var best []impl.Use
	ways := 0
	eachWay(deals, usesThereAre(units, deals), func(way []impl.Use) {
		more := savedBy(way) - savedBy(best)
		switch {
		case more > 0:
			ways = 1
		case more == 0:
			ways++
		}
		if more > 0 || more == 0 && comesAhead(way, best, len(units)) {
			best = slices.Clone(way)
		}
	})
	slices.SortFunc(best, func(a, b impl.Use) int { return cmp.Compare(a.Units[0], b.Units[0]) })
	told := impl.Bargain{Saved: savedBy(best), Uses: best}
	for _, unit := range units {
		told.Total += unit.Price
	}
	told.Total -= told.Saved
	return told, ways
}

// someDeals have few values, so that many ways save the same.
func someDeals(r *rand.Rand, count, greatest int, articles []string) []impl.Deal {
	var deals []impl.Deal
	for i := range count {
		of := slices.Clone(articles)
		r.Shuffle(len(of), func(a, b int) { of[a], of[b] = of[b], of[a] })
		deal := dealOf(fmt.Sprint("d", i), 1+r.IntN(4), 1+r.IntN(4), r.IntN(greatest+1), of[:1+r.IntN(len(of))]...)
		switch deal.Kind {
		case impl.DlPercent:
			deal.Need, deal.Value = 1, []int{0, 10, 33, 50, 50, 99, 100}[r.IntN(7)]
		case impl.DlFree:
			deal.Need, deal.Value = max(deal.Need, 2), 0
		case impl.DlSet:
			deal.Value = min(deal.Value*r.IntN(3), dearest)
		}
		deal.Once = r.IntN(3) == 0
		deals = append(deals, deal)
	}
	return deals
}

func someUnits(r *rand.Rand, count, greatest int, articles []string) []impl.Unit {
	var units []impl.Unit
	for range count {
		units = append(units, impl.Unit{Article: articles[r.IntN(len(articles))], Price: r.IntN(greatest + 1)})
	}
	return units
}

func wantBest(t *testing.T, what string, units []impl.Unit, deals []impl.Deal, want impl.Bargain) {
	t.Helper()
	told, code := impl.Best(units, deals)
	if code != impl.OK || !sameBargain(told, want) {
		t.Errorf("%s: Best(%v, %v) = %v, %d; not %v", what, units, deals, told, code, want)
	}
	again, code := impl.Priced(units, deals, told.Uses)
	if code != impl.OK || !sameBargain(again, told) {
		t.Errorf("%s: Best(%v, %v) = %v, and Priced = %v, %d", what, units, deals, told, again, code)
	}
}

func TestP6NoOtherUsesCostLess(t *testing.T) {
	r := fixed()
	several, coupons, without := 0, 0, 0
	for range 10000 {
		greatest := []int{1, 3, 10, 300, dearest}[r.IntN(5)]
		articles := []string{"milk", "bread", "käse", "Milk"}[:1+r.IntN(4)]
		units, deals := someUnits(r, r.IntN(7), greatest, articles), someDeals(r, r.IntN(5), greatest, articles)
		want, ways := bestByWords(units, deals)
		wantBest(t, "by words", units, deals, want)
		if ways > 1 && want.Saved > 0 {
			several++
		}
		if slices.ContainsFunc(want.Uses, func(use impl.Use) bool { return deals[use.Deal].Once }) {
			coupons++
		}
		if want.Saved == 0 {
			without++
		}
	}
	if several < 1000 || coupons < 1000 || without < 100 {
		t.Error("too few baskets of each sort", several, coupons, without)
	}
}

// fitsByWords: each use is one of those there are, and no two of them clash.
func fitsByWords(units []impl.Unit, deals []impl.Deal, uses []impl.Use) bool {
	there, inUses, spent := usesThereAre(units, deals), map[int]int{}, map[int]int{}
	for _, use := range uses {
		if !slices.ContainsFunc(there, func(one impl.Use) bool { return one.Deal == use.Deal && slices.Equal(one.Units, use.Units) }) {
			return false
		}
		spent[use.Deal]++
		for _, u := range use.Units {
			inUses[u]++
		}
	}
	for u := range units {
		if inUses[u] > 1 {
			return false
		}
	}
	for d, deal := range deals {
		if deal.Once && spent[d] > 1 {
			return false
		}
	}
	return true
}

// someUses are now and then as told: most units are those of a use there is, in some with one number changed.
func someUses(r *rand.Rand, units []impl.Unit, deals []impl.Deal) []impl.Use {
	there := usesThereAre(units, deals)
	var uses []impl.Use
	for range r.IntN(4) {
		use := useOf(r.IntN(5)-1, r.IntN(6)-1)
		if len(there) > 0 {
			one := there[r.IntN(len(there))]
			use = useOf(one.Deal, slices.Clone(one.Units)...)
		}
		switch r.IntN(9) {
		case 0:
			use.Units[r.IntN(len(use.Units))] = r.IntN(8) - 1
		case 1:
			use.Deal = r.IntN(6) - 1
		}
		uses = append(uses, saving(use, r.IntN(5)))
	}
	return uses
}

func TestP6PricedByWords(t *testing.T) {
	r := fixed()
	counts := map[int]int{}
	for range 20000 {
		articles := []string{"milk", "bread", "egg"}[:1+r.IntN(3)]
		units, deals := someUnits(r, r.IntN(7), 10, articles), someDeals(r, r.IntN(5), 10, articles)
		uses := someUses(r, units, deals)
		want, wantCode := impl.Bargain{}, impl.ErrForm
		if fitsByWords(units, deals, uses) {
			wantCode = impl.OK
			for _, unit := range units {
				want.Total += unit.Price
			}
			for _, use := range uses {
				var prices []int
				for _, u := range use.Units {
					prices = append(prices, units[u].Price)
				}
				want.Uses = append(want.Uses, saving(useOf(use.Deal, use.Units...), savesByWords(deals[use.Deal], prices)))
			}
			want.Saved = savedBy(want.Uses)
			want.Total -= want.Saved
		}
		if told, code := impl.Priced(units, deals, uses); code != wantCode || !sameBargain(told, want) {
			t.Fatalf("Priced(%v, %v, %v) = %v, %d; not %v, %d", units, deals, uses, told, code, want, wantCode)
		}
		counts[len(want.Uses)]++
	}
	if counts[1] < 1000 || counts[2] < 200 || counts[0] > 17000 {
		t.Error("too few uses that fit", counts)
	}
}

func TestP6FullBasketsByWords(t *testing.T) {
	r := fixed()
	articles := []string{"milk", "bread", "egg", "wine", "käse"}
	for range 400 {
		greatest := []int{2, 10, 300}[r.IntN(3)]
		units, deals := someUnits(r, impl.MaxBasket, greatest, articles), someDeals(r, impl.MaxDeals, greatest, articles[:2+r.IntN(3)])
		for i := range deals {
			deals[i].Articles = deals[i].Articles[:min(2, len(deals[i].Articles))] // a plain search of all ways is to end
		}
		want, _ := bestByWords(units, deals)
		wantBest(t, "a full basket", units, deals, want)
	}
}

func TestP6ADealMoreNeverMakesItDearer(t *testing.T) {
	r := fixed()
	articles := []string{"milk", "bread", "egg"}
	for range 300 {
		units, deals := someUnits(r, impl.MaxBasket, 300, articles), someDeals(r, impl.MaxDeals, 300, articles)
		before := 0
		for _, unit := range units {
			before += unit.Price
		}
		for count := range len(deals) + 1 {
			told, code := impl.Best(units, deals[:count])
			if code != impl.OK || told.Total > before || told.Total < 0 {
				t.Fatalf("Best(%v, %v) = %v, %d; dearer than %d", units, deals[:count], told, code, before)
			}
			again, code := impl.Priced(units, deals[:count], told.Uses)
			if code != impl.OK || !sameBargain(again, told) {
				t.Fatalf("Best(%v, %v) = %v, and Priced = %v, %d", units, deals[:count], told, again, code)
			}
			before = told.Total
		}
	}
}

func TestP6UnitsThatSeveralDealsWant(t *testing.T) {
	// Three milk for two and half of the bread save more than any mix.
	wantBest(t, "by hand", []impl.Unit{{Article: "milk", Price: 100}, {Article: "bread", Price: 250}, {Article: "milk", Price: 100}, {Article: "milk", Price: 100}},
		[]impl.Deal{dealOf("three", impl.DlFree, 3, 0, "milk"), dealOf("mix", impl.DlSet, 2, 240, "milk", "bread"), coupon(dealOf("card", impl.DlPercent, 1, 50, "bread"))},
		impl.Bargain{Total: 325, Saved: 225, Uses: []impl.Use{saving(useOf(0, 0, 2, 3), 100), saving(useOf(2, 1), 125)}})
	// The deal that saves most takes units that save more apart.
	wantBest(t, "the greatest saving is not the best", unitsOf("milk", 100, 100),
		[]impl.Deal{dealOf("pair", impl.DlOff, 2, 50, "milk"), dealOf("one", impl.DlOff, 1, 30, "milk")},
		impl.Bargain{Total: 140, Saved: 60, Uses: []impl.Use{saving(useOf(1, 0), 30), saving(useOf(1, 1), 30)}})
	// The lowest unit is passed by, for a later one saves more with the same partner.
	wantBest(t, "the partner goes to the dearer one", []impl.Unit{{Article: "milk", Price: 10}, {Article: "bread", Price: 90}, {Article: "milk", Price: 80}},
		[]impl.Deal{dealOf("mix", impl.DlFree, 2, 0, "milk", "bread")}, impl.Bargain{Total: 100, Saved: 80, Uses: []impl.Use{saving(useOf(0, 1, 2), 80)}})
	// Of six, the dearest three and the cheapest three; not the cheapest free of any other three.
	wantBest(t, "cheap with cheap", unitsOf("milk", 9, 1, 8, 2, 7, 3),
		[]impl.Deal{dealOf("three", impl.DlFree, 3, 0, "milk")}, impl.Bargain{Total: 22, Saved: 8, Uses: []impl.Use{saving(useOf(0, 0, 2, 4), 7), saving(useOf(0, 1, 3, 5), 1)}})
	// A set at a price takes the dearest.
	wantBest(t, "the dearest into the set", unitsOf("milk", 1, 9, 2, 8),
		[]impl.Deal{dealOf("set", impl.DlSet, 2, 5, "milk")}, impl.Bargain{Total: 8, Saved: 12, Uses: []impl.Use{saving(useOf(0, 1, 3), 12)}})
	// Articles of several deals overlap: each unit is in one of them.
	wantBest(t, "a chain of deals", []impl.Unit{{Article: "a", Price: 100}, {Article: "b", Price: 100}, {Article: "c", Price: 100}, {Article: "d", Price: 100}},
		[]impl.Deal{dealOf("ab", impl.DlOff, 2, 40, "a", "b"), dealOf("bc", impl.DlOff, 2, 70, "b", "c"), dealOf("cd", impl.DlOff, 2, 40, "c", "d")},
		impl.Bargain{Total: 320, Saved: 80, Uses: []impl.Use{saving(useOf(0, 0, 1), 40), saving(useOf(2, 2, 3), 40)}})
}

func TestP6Coupons(t *testing.T) {
	half, third := dealOf("half", impl.DlPercent, 1, 50, "milk"), dealOf("third", impl.DlOff, 1, 30, "milk")
	for _, c := range []struct {
		what  string
		units []impl.Unit
		deals []impl.Deal
		want  impl.Bargain
	}{
		{"a coupon is for the dearest", unitsOf("milk", 100, 120, 110), []impl.Deal{coupon(half)}, impl.Bargain{Total: 270, Saved: 60, Uses: []impl.Use{saving(useOf(0, 1), 60)}}},
		{"a deal that is no coupon is for all", unitsOf("milk", 100, 120, 110), []impl.Deal{half}, impl.Bargain{Total: 165, Saved: 165, Uses: []impl.Use{saving(useOf(0, 0), 50), saving(useOf(0, 1), 60), saving(useOf(0, 2), 55)}}},
		{"two coupons, for two units", unitsOf("milk", 100, 120, 110), []impl.Deal{coupon(third), coupon(half)}, impl.Bargain{Total: 240, Saved: 90, Uses: []impl.Use{saving(useOf(1, 1), 60), saving(useOf(0, 2), 30)}}},
		{"a coupon beside a deal that is none", unitsOf("milk", 100, 120, 110), []impl.Deal{third, coupon(half)}, impl.Bargain{Total: 210, Saved: 120, Uses: []impl.Use{saving(useOf(0, 0), 30), saving(useOf(1, 1), 60), saving(useOf(0, 2), 30)}}},
		{"two coupons, one unit", unitsOf("milk", 100), []impl.Deal{coupon(third), coupon(half)}, impl.Bargain{Total: 50, Saved: 50, Uses: []impl.Use{saving(useOf(1, 0), 50)}}},
		{"a coupon for a pair, wanted twice", unitsOf("milk", 100, 100, 100, 100), []impl.Deal{coupon(dealOf("pair", impl.DlFree, 2, 0, "milk"))}, impl.Bargain{Total: 300, Saved: 100, Uses: []impl.Use{saving(useOf(0, 2, 3), 100)}}},
		{"a pair, twice", unitsOf("milk", 100, 100, 100, 100), []impl.Deal{dealOf("pair", impl.DlFree, 2, 0, "milk")}, impl.Bargain{Total: 200, Saved: 200, Uses: []impl.Use{saving(useOf(0, 0, 1), 100), saving(useOf(0, 2, 3), 100)}}},
		{"coupons alike but for their names", unitsOf("milk", 100, 100, 100), []impl.Deal{coupon(dealOf("a", impl.DlOff, 1, 10, "milk")), coupon(dealOf("b", impl.DlOff, 1, 10, "milk"))}, impl.Bargain{Total: 280, Saved: 20, Uses: []impl.Use{saving(useOf(0, 1), 10), saving(useOf(1, 2), 10)}}},
	} {
		wantBest(t, c.what, c.units, c.deals, c.want)
	}
}

func TestP6WhichOfSeveralBestWaysComesFirst(t *testing.T) {
	off := func(name string, need, value int, articles ...string) impl.Deal {
		return dealOf(name, impl.DlOff, need, value, articles...)
	}
	for _, c := range []struct {
		what  string
		units []impl.Unit
		deals []impl.Deal
		want  impl.Bargain
	}{
		{"no use ahead of one that saves nothing", unitsOf("milk", 100, 200), []impl.Deal{off("a", 1, 0, "milk"), dealOf("b", impl.DlPercent, 1, 0, "milk"), dealOf("c", impl.DlSet, 2, 300, "milk")}, impl.Bargain{Total: 300}},
		{"no use of what costs nothing", unitsOf("milk", 0, 0), []impl.Deal{dealOf("a", impl.DlFree, 2, 0, "milk"), dealOf("b", impl.DlPercent, 1, 100, "milk")}, impl.Bargain{}},
		{"no use of the lowest ahead of a use", unitsOf("milk", 100, 100, 100), []impl.Deal{coupon(off("a", 1, 10, "milk"))}, impl.Bargain{Total: 290, Saved: 10, Uses: []impl.Use{saving(useOf(0, 2), 10)}}},
		{"a coupon for two of three leaves the lowest", unitsOf("milk", 100, 100, 100), []impl.Deal{off("a", 2, 10, "milk")}, impl.Bargain{Total: 290, Saved: 10, Uses: []impl.Use{saving(useOf(0, 1, 2), 10)}}},
		{"the lowest is passed by though a deal of a lower number would take it", unitsOf("milk", 100, 100), []impl.Deal{coupon(off("a", 1, 10, "milk")), off("b", 2, 10, "milk")}, impl.Bargain{Total: 190, Saved: 10, Uses: []impl.Use{saving(useOf(0, 1), 10)}}},
		{"of two deals the lower number", unitsOf("milk", 100), []impl.Deal{off("z", 1, 10, "milk"), dealOf("a", impl.DlPercent, 1, 10, "milk")}, impl.Bargain{Total: 90, Saved: 10, Uses: []impl.Use{saving(useOf(0, 0), 10)}}},
		{"of two deals for all units the lower number", unitsOf("milk", 100, 100), []impl.Deal{off("z", 1, 10, "milk"), off("a", 2, 20, "milk")}, impl.Bargain{Total: 180, Saved: 20, Uses: []impl.Use{saving(useOf(0, 0), 10), saving(useOf(0, 1), 10)}}},
		{"the lower number, though it takes more units", unitsOf("milk", 100, 100), []impl.Deal{off("z", 2, 20, "milk"), off("a", 1, 10, "milk")}, impl.Bargain{Total: 180, Saved: 20, Uses: []impl.Use{saving(useOf(0, 0, 1), 20)}}},
		{"the lowest unit's deal counts ahead of the next one's", unitsOf("milk", 100, 100), []impl.Deal{coupon(off("a", 1, 10, "milk")), coupon(off("b", 1, 10, "milk"))}, impl.Bargain{Total: 180, Saved: 20, Uses: []impl.Use{saving(useOf(0, 0), 10), saving(useOf(1, 1), 10)}}},
		{"of one deal the lesser list of units", unitsOf("milk", 100, 100, 100, 100), []impl.Deal{off("a", 2, 20, "milk")}, impl.Bargain{Total: 360, Saved: 40, Uses: []impl.Use{saving(useOf(0, 0, 1), 20), saving(useOf(0, 2, 3), 20)}}},
		{"the lower number for two units at once, where the lowest is passed by", []impl.Unit{{Article: "egg", Price: 50}, {Article: "milk", Price: 100}, {Article: "wine", Price: 1}, {Article: "milk", Price: 100}}, []impl.Deal{coupon(dealOf("a", impl.DlSet, 2, 100, "milk", "egg")), dealOf("b", impl.DlPercent, 1, 50, "milk")}, impl.Bargain{Total: 151, Saved: 100, Uses: []impl.Use{saving(useOf(0, 1, 3), 100)}}},
		{"the lesser list, where the lowest must be used", []impl.Unit{{Article: "egg", Price: 60}, {Article: "milk", Price: 100}, {Article: "wine", Price: 1}, {Article: "milk", Price: 100}}, []impl.Deal{coupon(dealOf("a", impl.DlSet, 2, 100, "milk", "egg")), dealOf("b", impl.DlPercent, 1, 50, "milk")}, impl.Bargain{Total: 151, Saved: 110, Uses: []impl.Use{saving(useOf(0, 0, 1), 60), saving(useOf(1, 3), 50)}}},
		{"the lesser list of three", []impl.Unit{{Article: "egg", Price: 60}, {Article: "milk", Price: 60}, {Article: "milk", Price: 60}, {Article: "milk", Price: 60}, {Article: "egg", Price: 50}}, []impl.Deal{coupon(dealOf("a", impl.DlSet, 3, 100, "milk", "egg"))}, impl.Bargain{Total: 210, Saved: 80, Uses: []impl.Use{saving(useOf(0, 1, 2, 3), 80)}}},
		{"uses stand by their first units, not by their deals", []impl.Unit{{Article: "egg", Price: 50}, {Article: "milk", Price: 100}, {Article: "egg", Price: 50}, {Article: "bread", Price: 200}, {Article: "milk", Price: 100}}, []impl.Deal{off("bread", 1, 20, "bread"), off("milk", 2, 30, "milk"), off("egg", 2, 40, "egg")}, impl.Bargain{Total: 410, Saved: 90, Uses: []impl.Use{saving(useOf(2, 0, 2), 40), saving(useOf(1, 1, 4), 30), saving(useOf(0, 3), 20)}}},
	} {
		wantBest(t, c.what, c.units, c.deals, c.want)
		if words, _ := bestByWords(c.units, c.deals); !sameBargain(words, c.want) {
			t.Errorf("%s: the words tell %v", c.what, words)
		}
	}
}

func TestP6NothingToSave(t *testing.T) {
	for _, deals := range [][]impl.Deal{nil, {}, mixedDeals()} {
		wantBest(t, "no units", nil, deals, impl.Bargain{})
		wantBest(t, "an empty list", []impl.Unit{}, deals, impl.Bargain{})
		wantBest(t, "units that no deal wants", unitsOf("Milk", 5, 6, 7), deals, impl.Bargain{Total: 18})
	}
	wantBest(t, "no deals", mixedBasket(), nil, impl.Bargain{Total: 1010})
	wantBest(t, "too few units", unitsOf("milk", 100, 100, 100), []impl.Deal{dealOf("a", impl.DlFree, 4, 0, "milk")}, impl.Bargain{Total: 300})
}

func TestP6TheGreatestBasket(t *testing.T) {
	var pairs, singles []impl.Use
	for i := range impl.MaxBasket {
		singles = append(singles, saving(useOf(5, i), dearest))
		if i%2 == 1 {
			pairs = append(pairs, saving(useOf(0, i-1, i), 2*dearest))
		}
	}
	units := unitsOf("milk", alike(dearest, impl.MaxBasket)...)
	deals := manyDeals(impl.MaxDeals)
	deals[5] = dealOf("free", impl.DlPercent, 1, 100, "milk")
	wantBest(t, "all for nothing", units, deals, impl.Bargain{Saved: 8 * dearest, Uses: singles})
	deals[0] = dealOf("pair", impl.DlSet, 2, 0, "milk")
	wantBest(t, "all for nothing, in pairs", units, deals, impl.Bargain{Saved: 8 * dearest, Uses: pairs})
	wantBest(t, "no deal holds", units, mixedDeals()[2:3], impl.Bargain{Total: 8 * dearest})
	// Six coupons for eight units, the dearest units at the end.
	for i := range deals {
		deals[i] = coupon(dealOf(deals[i].Name, impl.DlPercent, 1, 10*(i+1), "milk"))
	}
	wantBest(t, "the greatest coupon for the dearest", unitsOf("milk", 100, 200, 300, 400, 500, 600, 700, 800), deals, impl.Bargain{Total: 2270, Saved: 1330, Uses: []impl.Use{saving(useOf(0, 2), 30), saving(useOf(1, 3), 80), saving(useOf(2, 4), 150), saving(useOf(3, 5), 240), saving(useOf(4, 6), 350), saving(useOf(5, 7), 480)}})
}

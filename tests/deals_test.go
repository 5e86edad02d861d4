package tests

import (
	"fmt"
	"math"
	"math/big"
	"reflect"
	"slices"
	"strings"
	"testing"

	"loop.example/g00067/impl"
)

const dearest = impl.MaxPrice

// unitsOf are units of one article, at these prices.
func unitsOf(article string, prices ...int) []impl.Unit {
	var units []impl.Unit
	for _, price := range prices {
		units = append(units, impl.Unit{Article: article, Price: price})
	}
	return units
}

func dealOf(name string, kind, need, value int, articles ...string) impl.Deal {
	return impl.Deal{Name: name, Kind: kind, Articles: articles, Need: need, Value: value}
}

func coupon(deal impl.Deal) impl.Deal {
	deal.Once = true
	return deal
}

func useOf(deal int, units ...int) impl.Use { return impl.Use{Deal: deal, Units: units} }

func saving(use impl.Use, saves int) impl.Use {
	use.Saves = saves
	return use
}

// sameBargain: an empty list and nil are the same.
func sameBargain(a, b impl.Bargain) bool {
	return a.Total == b.Total && a.Saved == b.Saved && slices.EqualFunc(a.Uses, b.Uses, func(a, b impl.Use) bool {
		return a.Deal == b.Deal && a.Saves == b.Saves && slices.Equal(a.Units, b.Units)
	})
}

// someNames are count names, each of its own.
func someNames(count int) []string {
	var names []string
	for i := range count {
		names = append(names, fmt.Sprint("n", i))
	}
	return names
}

// manyDeals differ in their names alone.
func manyDeals(count int) []impl.Deal {
	var deals []impl.Deal
	for _, name := range someNames(count) {
		deals = append(deals, dealOf(name, impl.DlOff, 1, 1, "milk"))
	}
	return deals
}

func textsThatAreNoNames() []string {
	return []string{"", " ", "9", "9a", "a b", "a-b", "\x00", "\xff", "a\xff", "\xc3", "käse\xc3", strings.Repeat("n", impl.MaxName+1), strings.Repeat("n", impl.MaxText+1)}
}

func rightUnits() [][]impl.Unit {
	return [][]impl.Unit{
		nil, {}, unitsOf("milk", 0), unitsOf("milk", dearest), unitsOf("m", 1), unitsOf("käse", 1, 2, 3), unitsOf("_9", 5, 5, 5), unitsOf(strings.Repeat("n", impl.MaxName), 7),
		unitsOf("milk", alike(100, impl.MaxBasket)...), unitsOf("milk", alike(dearest, impl.MaxBasket)...), append(unitsOf("milk", 1, 0), unitsOf("Milk", 0, 1)...),
	}
}

func wrongUnits() [][]impl.Unit {
	lists := [][]impl.Unit{{{}}, unitsOf("milk", alike(100, impl.MaxBasket+1)...), unitsOf("milk", alike(0, impl.MaxBasket+1)...), make([]impl.Unit, impl.MaxBasket), make([]impl.Unit, impl.MaxList), unitsOf("milk", alike(1, impl.MaxList)...)}
	var wrong []impl.Unit
	for _, text := range textsThatAreNoNames() {
		wrong = append(wrong, impl.Unit{Article: text, Price: 1})
	}
	for _, price := range []int{-1, dearest + 1, -dearest, most, math.MinInt, math.MaxInt} {
		wrong = append(wrong, impl.Unit{Article: "milk", Price: price})
	}
	// The fault stands alone, first, in the midst and last among units that are right.
	good := impl.Unit{Article: "milk", Price: 100}
	for _, unit := range wrong {
		lists = append(lists, []impl.Unit{unit}, []impl.Unit{unit, good}, []impl.Unit{good, unit, good}, []impl.Unit{good, unit})
	}
	return lists
}

func rightDeals() [][]impl.Deal {
	long := strings.Repeat("n", impl.MaxName)
	lists := [][]impl.Deal{
		nil, {}, manyDeals(1), manyDeals(impl.MaxDeals),
		{dealOf(long, impl.DlPercent, 1, 10, long)}, {dealOf("käse", impl.DlPercent, 1, 10, "käse")}, {dealOf("_", impl.DlPercent, 1, 10, "_9")},
		{dealOf("a", impl.DlOff, 1, 1, someNames(impl.MaxOf)...)}, {dealOf("a", impl.DlOff, 1, 1, "milk", "Milk", "mil", "milk_")},
		// Names differ though one begins the other, and deals may be alike but for them; a deal may have the name of an article.
		{dealOf("a", impl.DlOff, 1, 1, "a"), dealOf("A", impl.DlOff, 1, 1, "a"), dealOf("aa", impl.DlOff, 1, 1, "a")},
	}
	for _, c := range [][3]int{
		{impl.DlPercent, 1, 0}, {impl.DlPercent, 1, 1}, {impl.DlPercent, 1, 100},
		{impl.DlSet, 1, 0}, {impl.DlSet, 4, 0}, {impl.DlSet, 1, dearest}, {impl.DlSet, 4, dearest}, {impl.DlSet, 2, 101},
		{impl.DlFree, 2, 0}, {impl.DlFree, 3, 0}, {impl.DlFree, 4, 0},
		{impl.DlOff, 1, 0}, {impl.DlOff, 4, 0}, {impl.DlOff, 1, dearest}, {impl.DlOff, 4, dearest}, {impl.DlOff, 3, 101},
	} {
		deal := dealOf("a", c[0], c[1], c[2], "milk")
		lists = append(lists, []impl.Deal{deal}, []impl.Deal{coupon(deal)}, []impl.Deal{dealOf("b", impl.DlSet, 2, 5, "bread"), deal})
	}
	return lists
}

func wrongDeals() [][]impl.Deal {
	lists := [][]impl.Deal{{{}}, manyDeals(impl.MaxDeals + 1), manyDeals(impl.MaxList), make([]impl.Deal, impl.MaxDeals)}
	var wrong []impl.Deal
	for _, text := range textsThatAreNoNames() {
		wrong = append(wrong, dealOf(text, impl.DlOff, 1, 1, "milk"), dealOf("a", impl.DlOff, 1, 1, text), dealOf("a", impl.DlOff, 1, 1, text, "milk"), dealOf("a", impl.DlOff, 1, 1, "milk", text))
	}
	for _, articles := range [][]string{nil, {}, {"milk", "milk"}, {"milk", "bread", "milk"}, {"bread", "milk", "milk"}, someNames(impl.MaxOf + 1), someNames(impl.MaxList), slices.Repeat([]string{"milk"}, impl.MaxList+1)} {
		wrong = append(wrong, dealOf("a", impl.DlOff, 1, 1, articles...))
	}
	for _, c := range [][3]int{
		{0, 1, 0}, {5, 1, 0}, {-1, 1, 0}, {0, 0, 0}, {5, 2, 0}, {math.MinInt, 1, 0}, {math.MaxInt, 1, 0},
		{impl.DlPercent, 0, 10}, {impl.DlPercent, 2, 10}, {impl.DlPercent, -1, 10}, {impl.DlPercent, math.MaxInt, 10}, {impl.DlPercent, 1, -1}, {impl.DlPercent, 1, 101}, {impl.DlPercent, 1, math.MinInt}, {impl.DlPercent, 1, math.MaxInt},
		{impl.DlSet, 0, 10}, {impl.DlSet, 5, 10}, {impl.DlSet, -1, 10}, {impl.DlSet, math.MinInt, 10}, {impl.DlSet, 1, -1}, {impl.DlSet, 4, -1}, {impl.DlSet, 2, dearest + 1}, {impl.DlSet, 2, math.MaxInt},
		{impl.DlFree, 0, 0}, {impl.DlFree, 1, 0}, {impl.DlFree, 5, 0}, {impl.DlFree, math.MaxInt, 0}, {impl.DlFree, 2, 1}, {impl.DlFree, 2, -1}, {impl.DlFree, 4, dearest}, {impl.DlFree, 3, math.MinInt},
		{impl.DlOff, 0, 10}, {impl.DlOff, 5, 10}, {impl.DlOff, -1, 10}, {impl.DlOff, math.MaxInt, 10}, {impl.DlOff, 1, -1}, {impl.DlOff, 4, -1}, {impl.DlOff, 2, dearest + 1}, {impl.DlOff, 2, math.MaxInt},
	} {
		wrong = append(wrong, dealOf("a", c[0], c[1], c[2], "milk"))
	}
	good, better := dealOf("good", impl.DlSet, 2, 10, "milk"), dealOf("better", impl.DlFree, 3, 0, "bread")
	for _, deal := range wrong {
		lists = append(lists, []impl.Deal{deal}, []impl.Deal{deal, good}, []impl.Deal{good, deal, better}, []impl.Deal{good, deal})
	}
	return append(lists, []impl.Deal{good, good}, []impl.Deal{good, coupon(good)}, []impl.Deal{good, better, dealOf("good", impl.DlOff, 1, 1, "egg")}, []impl.Deal{better, good, good})
}

func TestDealBounds(t *testing.T) {
	if impl.MaxBasket != 8 || impl.MaxDeals != 6 || impl.MaxOf != 6 || impl.MaxNeed != 4 || impl.MaxPrice != 100000000 {
		t.Error("bounds", impl.MaxBasket, impl.MaxDeals, impl.MaxOf, impl.MaxNeed, impl.MaxPrice)
	}
	if impl.DlPercent != 1 || impl.DlSet != 2 || impl.DlFree != 3 || impl.DlOff != 4 {
		t.Error("kinds", impl.DlPercent, impl.DlSet, impl.DlFree, impl.DlOff)
	}
}

func TestDealsThatAreRight(t *testing.T) {
	for _, deals := range rightDeals() {
		if !impl.DealsOK(deals) {
			t.Errorf("DealsOK(%v) is false", deals)
		}
		for _, units := range rightUnits() {
			if _, code := impl.Best(units, deals); code != impl.OK {
				t.Errorf("Best(%v, %v) = %d", units, deals, code)
			}
			if told, code := impl.Priced(units, deals, nil); code != impl.OK || told.Saved != 0 || len(told.Uses) != 0 {
				t.Errorf("Priced(%v, %v) = %v, %d", units, deals, told, code)
			}
		}
	}
}

func TestDealsThatAreWrong(t *testing.T) {
	for _, deals := range append(wrongDeals(), manyDeals(impl.MaxList+1)) {
		if impl.DealsOK(deals) {
			t.Errorf("DealsOK(%.300s) is true", fmt.Sprint(deals))
		}
	}
}

// wantBasketFault asks Best, and Priced with uses that fit and with uses that do not: they are looked at last.
func wantBasketFault(t *testing.T, units []impl.Unit, deals []impl.Deal, want int) {
	t.Helper()
	what := func() string { return fmt.Sprintf("(%.200s, %.200s)", fmt.Sprint(units), fmt.Sprint(deals)) }
	if told, code := impl.Best(units, deals); code != want || !reflect.DeepEqual(told, impl.Bargain{}) {
		t.Errorf("Best%s = %v, %d; not %d", what(), told, code, want)
	}
	for _, uses := range [][]impl.Use{nil, {useOf(0, 0)}, {useOf(-1)}, make([]impl.Use, impl.MaxList)} {
		if told, code := impl.Priced(units, deals, uses); code != want || !reflect.DeepEqual(told, impl.Bargain{}) {
			t.Errorf("Priced%s = %v, %d; not %d", what(), told, code, want)
		}
	}
}

func TestBasketFaults(t *testing.T) {
	milk, off := unitsOf("milk", 100), manyDeals(1)
	tooLongUnits, tooLongDeals := unitsOf("milk", alike(100, impl.MaxList+1)...), manyDeals(impl.MaxList+1)
	for _, units := range wrongUnits() {
		wantBasketFault(t, units, off, impl.ErrBad)
		wantBasketFault(t, units, nil, impl.ErrBad)
		wantBasketFault(t, units, wrongDeals()[0], impl.ErrBad)
		wantBasketFault(t, units, tooLongDeals, impl.ErrLong)
	}
	for _, deals := range wrongDeals() {
		wantBasketFault(t, milk, deals, impl.ErrBad)
		wantBasketFault(t, nil, deals, impl.ErrBad)
		wantBasketFault(t, tooLongUnits, deals, impl.ErrLong)
	}
	wantBasketFault(t, tooLongUnits, off, impl.ErrLong)
	wantBasketFault(t, milk, tooLongDeals, impl.ErrLong)
	wantBasketFault(t, tooLongUnits, tooLongDeals, impl.ErrLong)
	for _, units := range [][]impl.Unit{milk, nil, wrongUnits()[0], tooLongUnits} {
		for _, deals := range [][]impl.Deal{off, nil, wrongDeals()[0], tooLongDeals} {
			if told, code := impl.Priced(units, deals, make([]impl.Use, impl.MaxList+1)); code != impl.ErrLong || !reflect.DeepEqual(told, impl.Bargain{}) {
				t.Error("Priced with too many uses", told, code)
			}
		}
	}
}

// savesByWords looks for the number that the table of kinds tells.
func savesByWords(deal impl.Deal, prices []int) int {
	sum, least := 0, math.MaxInt
	for _, price := range prices {
		sum, least = sum+price, min(least, price)
	}
	switch {
	case deal.Kind == impl.DlPercent:
		part := new(big.Rat).Mul(big.NewRat(int64(prices[0]), 1), big.NewRat(int64(deal.Value), 100))
		return int(roundedRat(part, impl.RdDown).Int64())
	case deal.Kind == impl.DlSet && sum > deal.Value:
		return sum - deal.Value
	case deal.Kind == impl.DlFree:
		return least
	case deal.Kind == impl.DlOff && deal.Value > sum:
		return sum
	case deal.Kind == impl.DlOff:
		return deal.Value
	}
	return 0
}

func TestP6WhatAUseSaves(t *testing.T) {
	for _, c := range []struct {
		kind, need, value int
		prices            []int
		saves             int
	}{
		{impl.DlPercent, 1, 0, []int{999}, 0}, {impl.DlPercent, 1, 100, []int{999}, 999}, {impl.DlPercent, 1, 50, []int{999}, 499}, {impl.DlPercent, 1, 33, []int{100}, 33},
		{impl.DlPercent, 1, 1, []int{99}, 0}, {impl.DlPercent, 1, 1, []int{100}, 1}, {impl.DlPercent, 1, 1, []int{199}, 1}, {impl.DlPercent, 1, 99, []int{1}, 0}, {impl.DlPercent, 1, 99, []int{2}, 1}, {impl.DlPercent, 1, 15, []int{250}, 37},
		{impl.DlPercent, 1, 100, []int{0}, 0}, {impl.DlPercent, 1, 100, []int{dearest}, dearest}, {impl.DlPercent, 1, 99, []int{dearest - 1}, 98999999},
		{impl.DlSet, 1, 100, []int{101}, 1}, {impl.DlSet, 1, 100, []int{100}, 0}, {impl.DlSet, 1, 100, []int{99}, 0}, {impl.DlSet, 1, 0, []int{99}, 99}, {impl.DlSet, 2, 240, []int{100, 250}, 110}, {impl.DlSet, 3, 300, []int{100, 100, 100}, 0},
		{impl.DlSet, 3, 300, []int{100, 101, 100}, 1}, {impl.DlSet, 3, 300, []int{100, 99, 100}, 0}, {impl.DlSet, 4, 0, []int{0, 0, 0, 0}, 0}, {impl.DlSet, 4, 0, alike(dearest, 4), 4 * dearest}, {impl.DlSet, 4, dearest, alike(dearest, 4), 3 * dearest}, {impl.DlSet, 1, dearest, []int{0}, 0},
		{impl.DlFree, 2, 0, []int{100, 250}, 100}, {impl.DlFree, 2, 0, []int{250, 100}, 100}, {impl.DlFree, 3, 0, []int{7, 5, 6}, 5}, {impl.DlFree, 4, 0, []int{9, 9, 9, 8}, 8}, {impl.DlFree, 2, 0, []int{0, 250}, 0}, {impl.DlFree, 4, 0, alike(dearest, 4), dearest},
		{impl.DlOff, 1, 30, []int{100}, 30}, {impl.DlOff, 1, 100, []int{100}, 100}, {impl.DlOff, 1, 101, []int{100}, 100}, {impl.DlOff, 1, 0, []int{100}, 0}, {impl.DlOff, 2, 150, []int{100, 51}, 150}, {impl.DlOff, 2, 150, []int{100, 50}, 150}, {impl.DlOff, 2, 150, []int{100, 49}, 149},
		{impl.DlOff, 4, dearest, alike(dearest, 4), dearest}, {impl.DlOff, 4, dearest, []int{1, 2, 3, 4}, 10}, {impl.DlOff, 3, dearest, []int{0, 0, 0}, 0},
	} {
		deals := []impl.Deal{dealOf("a", c.kind, c.need, c.value, "milk")}
		sum, numbers := 0, []int{}
		for i, price := range c.prices {
			sum, numbers = sum+price, append(numbers, i)
		}
		want := impl.Bargain{Total: sum - c.saves, Saved: c.saves, Uses: []impl.Use{{Saves: c.saves, Units: numbers}}}
		if told, code := impl.Priced(unitsOf("milk", c.prices...), deals, []impl.Use{useOf(0, numbers...)}); code != impl.OK || !sameBargain(told, want) {
			t.Errorf("Priced(%v, %v) = %v, %d; not %v", c.prices, deals, told, code, want)
		}
		if c.saves != savesByWords(deals[0], c.prices) {
			t.Error("the words tell something else", c)
		}
		if c.saves == 0 {
			want.Uses = nil
		}
		if told, code := impl.Best(unitsOf("milk", c.prices...), deals); code != impl.OK || !sameBargain(told, want) {
			t.Errorf("Best(%v, %v) = %v, %d; not %v", c.prices, deals, told, code, want)
		}
	}
}

// mixedBasket has units 0, 2, 3 and 5 of milk, 1 and 4 of bread and 6 of eggs.
func mixedBasket() []impl.Unit {
	return []impl.Unit{{Article: "milk", Price: 100}, {Article: "bread", Price: 250}, {Article: "milk", Price: 110}, {Article: "milk", Price: 120}, {Article: "bread", Price: 260}, {Article: "milk", Price: 130}, {Article: "egg", Price: 40}}
}

func mixedDeals() []impl.Deal {
	return []impl.Deal{
		dealOf("three", impl.DlFree, 3, 0, "milk"), dealOf("mix", impl.DlSet, 2, 240, "milk", "bread"), coupon(dealOf("card", impl.DlPercent, 1, 50, "bread")),
		coupon(dealOf("pair", impl.DlOff, 2, 15, "egg", "milk")), dealOf("none", impl.DlOff, 1, 5, "wine"), dealOf("all", impl.DlSet, 4, 500, "milk", "bread", "egg"),
	}
}

func TestP6PricedByHand(t *testing.T) {
	for _, c := range []struct {
		what string
		uses []impl.Use
		want impl.Bargain
	}{
		{"no uses", nil, impl.Bargain{Total: 1010}},
		{"an empty list", []impl.Use{}, impl.Bargain{Total: 1010}},
		{"one use", []impl.Use{useOf(0, 0, 3, 5)}, impl.Bargain{Total: 910, Saved: 100, Uses: []impl.Use{saving(useOf(0, 0, 3, 5), 100)}}},
		{"uses of several deals", []impl.Use{useOf(0, 0, 2, 3), useOf(2, 1), useOf(3, 5, 6)}, impl.Bargain{Total: 770, Saved: 240, Uses: []impl.Use{saving(useOf(0, 0, 2, 3), 100), saving(useOf(2, 1), 125), saving(useOf(3, 5, 6), 15)}}},
		{"they stand as they were given", []impl.Use{useOf(3, 5, 6), useOf(2, 4), useOf(1, 1, 3), useOf(1, 0, 2)}, impl.Bargain{Total: 735, Saved: 275, Uses: []impl.Use{saving(useOf(3, 5, 6), 15), saving(useOf(2, 4), 130), saving(useOf(1, 1, 3), 130), saving(useOf(1, 0, 2), 0)}}},
		{"a deal that is not Once, used again and again", []impl.Use{useOf(1, 0, 1), useOf(1, 2, 4), useOf(1, 3, 5)}, impl.Bargain{Total: 760, Saved: 250, Uses: []impl.Use{saving(useOf(1, 0, 1), 110), saving(useOf(1, 2, 4), 130), saving(useOf(1, 3, 5), 10)}}},
		{"four units of several articles", []impl.Use{useOf(5, 1, 3, 4, 6)}, impl.Bargain{Total: 840, Saved: 170, Uses: []impl.Use{saving(useOf(5, 1, 3, 4, 6), 170)}}},
		{"Saves are not looked at", []impl.Use{saving(useOf(2, 1), 9999), saving(useOf(0, 0, 2, 3), math.MinInt), saving(useOf(1, 4, 5), math.MaxInt)}, impl.Bargain{Total: 635, Saved: 375, Uses: []impl.Use{saving(useOf(2, 1), 125), saving(useOf(0, 0, 2, 3), 100), saving(useOf(1, 4, 5), 150)}}},
	} {
		if told, code := impl.Priced(mixedBasket(), mixedDeals(), c.uses); code != impl.OK || !sameBargain(told, c.want) {
			t.Errorf("%s: Priced = %v, %d; not %v", c.what, told, code, c.want)
		}
	}
}

func TestP6PricedWithoutUnitsOrDeals(t *testing.T) {
	for _, deals := range [][]impl.Deal{nil, {}, mixedDeals()} {
		if told, code := impl.Priced(nil, deals, nil); code != impl.OK || !sameBargain(told, impl.Bargain{}) {
			t.Error("no units", told, code)
		}
		if told, code := impl.Priced(nil, deals, []impl.Use{useOf(2, 0)}); code != impl.ErrForm || !reflect.DeepEqual(told, impl.Bargain{}) {
			t.Error("no units, one use", told, code)
		}
	}
	if told, code := impl.Priced(mixedBasket(), nil, nil); code != impl.OK || !sameBargain(told, impl.Bargain{Total: 1010}) {
		t.Error("no deals", told, code)
	}
	if told, code := impl.Priced(mixedBasket(), nil, []impl.Use{useOf(0, 0)}); code != impl.ErrForm || !reflect.DeepEqual(told, impl.Bargain{}) {
		t.Error("no deals, one use", told, code)
	}
}

// usesThatDoNotFit are of mixedBasket and mixedDeals.
func usesThatDoNotFit() map[string][]impl.Use {
	wrong := map[string]impl.Use{
		"no use at all": {}, "no units": useOf(2), "too few units": useOf(0, 0, 2), "one unit for two": useOf(1, 1), "too many units": useOf(0, 0, 2, 3, 5), "two units for one": useOf(2, 1, 4), "very many units": useOf(0, make([]int, impl.MaxList+1)...),
		"units that fall": useOf(1, 2, 0), "units that fall last": useOf(0, 0, 3, 2), "one unit twice": useOf(1, 0, 0), "one unit thrice": useOf(0, 2, 2, 2), "all units fall": useOf(0, 3, 2, 0),
		"a unit of no Article of the deal": useOf(2, 0), "one unit among others": useOf(0, 0, 1, 2), "the last unit": useOf(0, 0, 2, 6), "of a deal that no unit is for": useOf(4, 0),
		"a unit below 0": useOf(2, -1), "the first unit below 0": useOf(1, -1, 1), "a unit that is not there": useOf(2, 7), "one beyond the last": useOf(3, 5, 7), "one far beyond": useOf(2, math.MaxInt), "one far below": useOf(2, math.MinInt), "units at both ends": useOf(1, math.MinInt, math.MaxInt), "MaxBasket": useOf(2, impl.MaxBasket),
		"a Deal below 0": useOf(-1, 1), "a Deal that is not there": useOf(6, 1), "a Deal far beyond": useOf(math.MaxInt, 1), "a Deal far below": useOf(math.MinInt, 1), "a Deal below 0 without units": useOf(-1),
	}
	lists := map[string][]impl.Use{
		"a unit in two uses": {useOf(1, 1, 2), useOf(2, 1)}, "a unit in two uses of one deal": {useOf(1, 0, 1), useOf(1, 1, 2)}, "the last units": {useOf(1, 0, 4), useOf(2, 1), useOf(1, 2, 4)}, "one use twice": {useOf(0, 0, 2, 3), useOf(0, 0, 2, 3)},
		"a coupon twice": {useOf(2, 1), useOf(2, 4)}, "a coupon twice, not side by side": {useOf(2, 4), useOf(1, 0, 2), useOf(2, 1)}, "another coupon twice": {useOf(3, 0, 2), useOf(2, 1), useOf(3, 5, 6)},
		"as many as there may be": slices.Repeat([]impl.Use{useOf(2, 1)}, impl.MaxList), "as many, all empty": make([]impl.Use, impl.MaxList),
	}
	for what, use := range wrong {
		lists[what] = []impl.Use{use}
		lists[what+", first"] = []impl.Use{use, useOf(3, 5, 6)}
		lists[what+", last"] = []impl.Use{useOf(3, 5, 6), use}
		lists[what+", with Saves"] = []impl.Use{saving(use, 1)}
	}
	return lists
}

func TestP6UsesThatDoNotFit(t *testing.T) {
	for what, uses := range usesThatDoNotFit() {
		if told, code := impl.Priced(mixedBasket(), mixedDeals(), uses); code != impl.ErrForm || !reflect.DeepEqual(told, impl.Bargain{}) {
			t.Errorf("%s: Priced = %v, %d; not ErrForm", what, told, code)
		}
	}
}

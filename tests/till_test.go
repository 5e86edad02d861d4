package tests

import (
	"fmt"
	"math"
	"slices"
	"strings"
	"testing"

	"loop.example/g00067/impl"
)

const (
	milk  = iota // a unit with a deposit
	ham          // by weight
	wine         // a unit of age 18
	gift         // a unit that costs nothing
	gold         // a unit as dear as can be, its deposit too
	match        // a unit of one cent
	snuff        // by weight, as dear as can be, with a deposit, of age 16
	relic        // a unit of age 120, its code begins with 2
	crate        // a unit that is nothing but a deposit of one cent
)

func shopItems() []impl.Item {
	return []impl.Item{
		milk:  {Code: "4006381333931", Price: 250, Deposit: 25, Class: 1},
		ham:   {Code: "12345", Price: 990, Class: 2},
		wine:  {Code: "96385074", Price: 1000, Class: 1, Age: 18},
		gift:  {Code: unitCode(1), Class: 3},
		gold:  {Code: unitCode(2), Price: impl.MaxCost, Deposit: impl.MaxCost, Class: 4},
		match: {Code: unitCode(3), Price: 1, Class: 9},
		snuff: {Code: "00000", Price: impl.MaxCost, Deposit: 8, Class: 5, Age: 16},
		relic: {Code: closing("2000000"), Price: 3, Class: 6, Age: 120},
		crate: {Code: unitCode(4), Deposit: 1, Class: 7},
	}
}

func scanned(text string, num int) impl.TillAct {
	return impl.TillAct{Kind: impl.TaScan, Text: text, Num: num}
}

// units scans units of an item of the shop.
func units(item, num int) impl.TillAct { return scanned(shopItems()[item].Code, num) }

func grams(item, value int) impl.TillAct {
	return scanned(gramsCode(shopItems()[item].Code, value), 1)
}

func priced(item, value int) impl.TillAct {
	return scanned(pricedCode(shopItems()[item].Code, value), 1)
}

func voided(line int) impl.TillAct { return impl.TillAct{Kind: impl.TaVoid, Num: line} }

func ageShown(age int) impl.TillAct { return impl.TillAct{Kind: impl.TaShown, Num: age} }

func suspended() impl.TillAct { return impl.TillAct{Kind: impl.TaSuspend} }

func resumed(place int) impl.TillAct { return impl.TillAct{Kind: impl.TaResume, Num: place} }

func paid(num int) impl.TillAct { return impl.TillAct{Kind: impl.TaPay, Num: num} }

func basketOf(shown int, lines ...impl.Line) impl.Basket {
	return impl.Basket{Lines: lines, Shown: shown}
}

func oneLine(item, count, amount, deposit int) impl.Line {
	return impl.Line{Item: item, Count: count, Amount: amount, Deposit: deposit}
}

func emptyTill() impl.Till { return impl.Till{Classes: alike(0, impl.MaxClass)} }

// tillOf has nothing sold yet.
func tillOf(now impl.Basket, kept ...impl.Basket) impl.Till {
	till := emptyTill()
	till.Now, till.Kept = now, kept
	return till
}

// soldOf has no basket; classes are pairs of a class and what it took.
func soldOf(sales, taken, deposits int, classes ...[2]int) impl.Till {
	till := emptyTill()
	till.Sales, till.Taken, till.Deposits = sales, taken, deposits
	for _, pair := range classes {
		till.Classes[pair[0]-1] = pair[1]
	}
	return till
}

func sameLines(a, b impl.Basket) bool { return a.Shown == b.Shown && slices.Equal(a.Lines, b.Lines) }

func sameTill(a, b impl.Till) bool {
	return sameLines(a.Now, b.Now) && slices.EqualFunc(a.Kept, b.Kept, sameLines) &&
		a.Sales == b.Sales && a.Taken == b.Taken && a.Deposits == b.Deposits && slices.Equal(a.Classes, b.Classes)
}

func dueOf(baskets ...impl.Basket) int {
	sum := 0
	for _, basket := range baskets {
		for _, line := range basket.Lines {
			sum += line.Amount + line.Deposit
		}
	}
	return sum
}

func told(nums ...int) []impl.TillObs {
	var list []impl.TillObs
	for _, num := range nums {
		list = append(list, impl.TillObs{Num: num})
	}
	return list
}

// wantTill asks what was told of all acts, and the till behind them.
func wantTill(t *testing.T, what string, acts []impl.TillAct, wantTold []impl.TillObs, want impl.Till) {
	t.Helper()
	got, till, code := impl.TillRun(shopItems(), acts)
	if code != impl.OK || !slices.Equal(got, wantTold) || !sameTill(till, want) {
		t.Errorf("%s: TillRun(%v) = %v, %v, %d; want %v, %v", what, acts, got, till, code, wantTold, want)
	}
	wantTillKept(t, what, shopItems(), acts)
}

// wantCode asks for the code of an act behind others, none of which has one, and that it changes nothing.
func wantCode(t *testing.T, what string, ahead []impl.TillAct, act impl.TillAct, want int) {
	t.Helper()
	acts := append(slices.Clone(ahead), act)
	_, before, _ := impl.TillRun(shopItems(), ahead)
	got, behind, code := impl.TillRun(shopItems(), acts)
	if code != impl.OK || len(got) != len(acts) {
		t.Fatalf("%s: %d acts of %d are told, code %d", what, len(got), len(acts), code)
	}
	for i, o := range got[:len(ahead)] {
		if o.Code != impl.OK {
			t.Fatalf("%s: act %d of %v has code %d", what, i, acts, o.Code)
		}
	}
	last := got[len(ahead)]
	if last.Code != want {
		t.Errorf("%s: %.200v has code %d, want %d", what, act, last.Code, want)
	}
	if want != impl.OK && (last.Num != 0 || !sameTill(before, behind)) {
		t.Errorf("%s: %.200v with a code tells %d and makes %v of %v", what, act, last.Num, behind, before)
	}
	wantTillKept(t, what, shopItems(), acts)
}

// wantTillKept goes through the acts one more at a time: what was taken is what classes and deposits have, what was scanned is in a basket, void or taken, an act with a code changes nothing, and what was told of an act does not hang on those behind it.
func wantTillKept(t *testing.T, what string, items []impl.Item, acts []impl.TillAct) {
	t.Helper()
	all, _, _ := impl.TillRun(items, acts)
	there, before := 0, emptyTill()
	for i, act := range acts {
		told, now, code := impl.TillRun(items, acts[:i+1])
		if code != impl.OK || !slices.Equal(told, all[:i+1]) {
			t.Fatalf("%s: the first %d acts are told as %v, %d; among %v as %v", what, i+1, told, code, acts, all[:i+1])
		}
		switch {
		case told[i].Code != impl.OK:
			if told[i].Num != 0 || !sameTill(now, before) {
				t.Errorf("%s: act %d of %v has code %d, tells %d and makes %v of %v", what, i, acts, told[i].Code, told[i].Num, now, before)
			}
		case act.Kind == impl.TaScan:
			there += told[i].Num
		case act.Kind == impl.TaVoid:
			there -= told[i].Num
		case act.Kind == impl.TaPay && now.Taken-before.Taken+told[i].Num != act.Num:
			t.Errorf("%s: of %d paid by act %d of %v %d are taken, %d given back", what, act.Num, i, acts, now.Taken-before.Taken, told[i].Num)
		}
		classes := 0
		for _, class := range now.Classes {
			classes += class
		}
		if len(now.Classes) != impl.MaxClass || now.Taken != classes+now.Deposits {
			t.Errorf("%s: behind act %d of %v %d are taken, the classes have %v, the deposits %d", what, i, acts, now.Taken, now.Classes, now.Deposits)
		}
		if now.Taken+dueOf(now.Now)+dueOf(now.Kept...) != there {
			t.Errorf("%s: behind act %d of %v %d were scanned and are not void; %v", what, i, acts, there, now)
		}
		wantBasketsInBounds(t, what, now)
		before = now
	}
}

func wantBasketsInBounds(t *testing.T, what string, till impl.Till) {
	t.Helper()
	if len(till.Kept) > impl.MaxKept {
		t.Errorf("%s: %d baskets are kept", what, len(till.Kept))
	}
	for i, basket := range append([]impl.Basket{till.Now}, till.Kept...) {
		if len(basket.Lines) > impl.MaxLines || i > 0 && len(basket.Lines) == 0 || dueOf(basket) > impl.MaxMoney || basket.Shown < 0 || basket.Shown > 120 {
			t.Errorf("%s: a basket has %v", what, basket)
		}
	}
}

func TestP9ATillBeginsEmpty(t *testing.T) {
	for _, items := range [][]impl.Item{nil, {}, shopItems()} {
		for _, acts := range [][]impl.TillAct{nil, {}} {
			told, till, code := impl.TillRun(items, acts)
			if code != impl.OK || len(told) != 0 || !sameTill(till, emptyTill()) {
				t.Errorf("TillRun of no acts: %v, %v, %d", told, till, code)
			}
		}
	}
}

func TestP9UnitsWeightsAndPricesAreScanned(t *testing.T) {
	for _, c := range []struct {
		act  impl.TillAct
		want impl.Line
	}{
		{units(milk, 1), oneLine(milk, 1, 250, 25)},
		{units(milk, 2), oneLine(milk, 2, 500, 50)},
		{units(milk, 99), oneLine(milk, 99, 24750, 2475)},
		{units(wine, 3), oneLine(wine, 3, 3000, 0)},
		{units(gift, 99), oneLine(gift, 99, 0, 0)},
		{units(gold, 99), oneLine(gold, 99, 99000000, 99000000)},
		{units(relic, 2), oneLine(relic, 2, 6, 0)},
		{units(crate, 7), oneLine(crate, 7, 0, 7)},
		{grams(ham, 0), oneLine(ham, 1, 0, 0)},
		{grams(ham, 1), oneLine(ham, 1, 1, 0)},
		{grams(ham, 50), oneLine(ham, 1, 50, 0)},
		{grams(ham, 150), oneLine(ham, 1, 148, 0)},
		{grams(ham, 500), oneLine(ham, 1, 495, 0)},
		{grams(ham, 1000), oneLine(ham, 1, 990, 0)},
		{grams(ham, 99999), oneLine(ham, 1, 98999, 0)},
		{grams(snuff, 0), oneLine(snuff, 1, 0, 8)},
		{grams(snuff, 1), oneLine(snuff, 1, 1000, 8)},
		{grams(snuff, 99999), oneLine(snuff, 1, 99999000, 8)},
		{priced(ham, 0), oneLine(ham, 1, 0, 0)},
		{priced(ham, 1), oneLine(ham, 1, 1, 0)},
		{priced(ham, 99999), oneLine(ham, 1, 99999, 0)},
		{priced(snuff, 5), oneLine(snuff, 1, 5, 8)},
	} {
		acts := []impl.TillAct{ageShown(120), c.act}
		wantTill(t, fmt.Sprint(c.act), acts, told(120, c.want.Amount+c.want.Deposit), tillOf(basketOf(120, c.want)))
	}
	wantTill(t, "one behind the other, alike ones too", []impl.TillAct{units(milk, 1), grams(ham, 500), units(milk, 1), priced(ham, 7)}, told(275, 495, 275, 7),
		tillOf(basketOf(0, oneLine(milk, 1, 250, 25), oneLine(ham, 1, 495, 0), oneLine(milk, 1, 250, 25), oneLine(ham, 1, 7, 0))))
}

func TestP9HowManyAreScanned(t *testing.T) {
	for num, want := range map[int]int{math.MinInt: impl.ErrRange, -1: impl.ErrRange, 0: impl.ErrRange, 1: impl.OK, 2: impl.OK, 98: impl.OK, 99: impl.OK, 100: impl.ErrRange, math.MaxInt: impl.ErrRange} {
		wantCode(t, fmt.Sprintf("%d units", num), nil, units(milk, num), want)
		if num != 1 {
			want = impl.ErrRange
		}
		wantCode(t, fmt.Sprintf("%d times a weight", num), nil, scanned(gramsCode("12345", 500), num), want)
		wantCode(t, fmt.Sprintf("%d times a price", num), nil, scanned(pricedCode("12345", 500), num), want)
	}
}

func TestP9WhatIsScannedWrong(t *testing.T) {
	for text, want := range map[string]int{
		"": impl.ErrSyntax, "12345": impl.ErrSyntax, "00000": impl.ErrSyntax, "milk": impl.ErrSyntax, "400638133393": impl.ErrSyntax, "4006381333931 ": impl.ErrSyntax, "9638507\xff": impl.ErrSyntax,
		strings.Repeat("1", impl.MaxText): impl.ErrSyntax, strings.Repeat("1", impl.MaxText+1): impl.ErrLong, strings.Repeat("\xff", 2*impl.MaxText): impl.ErrLong,
		"4006381333932": impl.ErrSum, "96385075": impl.ErrSum, "2212345006781": impl.ErrSum,
		closing("221234500678"): impl.ErrKind, closing("291234500678"): impl.ErrKind,
		unitCode(5): impl.ErrName, closing("400638133394"): impl.ErrName, gramsCode("12346", 500): impl.ErrName, pricedCode("00001", 5): impl.ErrName,
	} {
		for _, num := range []int{1, 0, 100, math.MinInt} { // these codes come ahead of that of Num
			wantCode(t, fmt.Sprintf("%.40q", text), nil, scanned(text, num), want)
			wantCode(t, fmt.Sprintf("%.40q behind a line", text), []impl.TillAct{units(milk, 1)}, scanned(text, num), want)
		}
	}
	told, _, code := impl.TillRun(nil, []impl.TillAct{units(milk, 1), grams(ham, 5), scanned("", 1)})
	if code != impl.OK || !slices.Equal(told, []impl.TillObs{{Code: impl.ErrName}, {Code: impl.ErrName}, {Code: impl.ErrSyntax}}) {
		t.Error("scans without items", told, code)
	}
}

func TestP9AgesThatAreShown(t *testing.T) {
	behind := func(acts ...impl.TillAct) []impl.TillAct { return acts }
	for _, c := range []struct {
		what  string
		ahead []impl.TillAct
		act   impl.TillAct
		want  int
	}{
		{"nothing shown", nil, units(wine, 1), impl.ErrAge},
		{"nothing shown, none needed", nil, units(milk, 1), impl.OK},
		{"one year too young", behind(ageShown(17)), units(wine, 1), impl.ErrAge},
		{"just old enough", behind(ageShown(18)), units(wine, 1), impl.OK},
		{"older", behind(ageShown(19)), units(wine, 1), impl.OK},
		{"the greatest age", behind(ageShown(120)), units(relic, 1), impl.OK},
		{"below the greatest age", behind(ageShown(119)), units(relic, 1), impl.ErrAge},
		{"by weight, too young", behind(ageShown(15)), grams(snuff, 1), impl.ErrAge},
		{"by weight, old enough", behind(ageShown(16)), grams(snuff, 1), impl.OK},
		{"by price, too young", behind(ageShown(15)), priced(snuff, 1), impl.ErrAge},
		{"by price, old enough", behind(ageShown(16)), priced(snuff, 1), impl.OK},
		{"shown anew, less", behind(ageShown(18), units(wine, 1), ageShown(17)), units(wine, 1), impl.ErrAge},
		{"shown anew, more", behind(ageShown(17), ageShown(18)), units(wine, 1), impl.OK},
		{"behind a line that is void", behind(ageShown(18), units(wine, 1), voided(0)), units(wine, 1), impl.OK},
		{"behind a sale", behind(ageShown(18), units(wine, 1), paid(1000)), units(wine, 1), impl.ErrAge},
		{"behind a basket that is put away", behind(ageShown(18), units(wine, 1), suspended()), units(wine, 1), impl.ErrAge},
		{"behind a basket that is taken up again", behind(ageShown(18), units(milk, 1), suspended(), resumed(0)), units(wine, 1), impl.OK},
		{"behind one that had nothing shown", behind(units(milk, 1), suspended(), ageShown(18), resumed(0)), units(wine, 1), impl.ErrAge},
		{"behind the other of two", behind(ageShown(18), units(milk, 1), suspended(), ageShown(17), units(milk, 1), suspended(), resumed(1)), units(wine, 1), impl.ErrAge},
		{"behind the one of two", behind(ageShown(17), units(milk, 1), suspended(), ageShown(18), units(milk, 1), suspended(), resumed(1)), units(wine, 1), impl.OK},
	} {
		wantCode(t, c.what, c.ahead, c.act, c.want)
	}
}

func TestP9AgesInBounds(t *testing.T) {
	for age, want := range map[int]int{math.MinInt: impl.ErrRange, -1: impl.ErrRange, 0: impl.OK, 1: impl.OK, 18: impl.OK, 119: impl.OK, 120: impl.OK, 121: impl.ErrRange, math.MaxInt: impl.ErrRange} {
		wantCode(t, "an age", []impl.TillAct{ageShown(40), units(wine, 1)}, ageShown(age), want)
		if want == impl.OK {
			wantTill(t, "an age", []impl.TillAct{ageShown(40), units(wine, 1), ageShown(age)}, told(40, 1000, age), tillOf(basketOf(age, oneLine(wine, 1, 1000, 0))))
		}
	}
}

func TestP9LinesThatAreVoid(t *testing.T) {
	four := []impl.TillAct{units(milk, 1), grams(ham, 500), units(match, 3), units(milk, 2)}
	lines := []impl.Line{oneLine(milk, 1, 250, 25), oneLine(ham, 1, 495, 0), oneLine(match, 3, 3, 0), oneLine(milk, 2, 500, 50)}
	for line, num := range []int{275, 495, 3, 550} {
		left := slices.Delete(slices.Clone(lines), line, line+1)
		wantTill(t, fmt.Sprint("line ", line), append(slices.Clone(four), voided(line)), told(275, 495, 3, 550, num), tillOf(basketOf(0, left...)))
	}
	wantTill(t, "the first, again and again", append(slices.Clone(four), voided(0), voided(0), voided(0), voided(0)), told(275, 495, 3, 550, 275, 495, 3, 550), emptyTill())
	wantTill(t, "the last, again and again", append(slices.Clone(four), voided(3), voided(2), voided(1)), told(275, 495, 3, 550, 550, 3, 495), tillOf(basketOf(0, lines[0])))
	wantTill(t, "one in the midst, and one scanned behind", append(slices.Clone(four), voided(1), units(match, 1)), told(275, 495, 3, 550, 495, 1), tillOf(basketOf(0, lines[0], lines[2], lines[3], oneLine(match, 1, 1, 0))))
	wantTill(t, "all, with what was shown", []impl.TillAct{ageShown(18), units(wine, 1), voided(0)}, told(18, 1000, 1000), tillOf(basketOf(18)))
	for _, line := range []int{math.MinInt, -1, 4, 5, impl.MaxLines, math.MaxInt} {
		wantCode(t, "no such line", four, voided(line), impl.ErrNone)
	}
	wantCode(t, "no line", nil, voided(0), impl.ErrNone)
	wantCode(t, "no line behind a sale", []impl.TillAct{units(milk, 1), paid(300)}, voided(0), impl.ErrNone)
	wantCode(t, "no line behind a basket put away", []impl.TillAct{units(milk, 1), suspended()}, voided(0), impl.ErrNone)
}

func TestP9BasketsThatAreTakenUpAgain(t *testing.T) {
	three := []impl.TillAct{ageShown(18), units(wine, 1), suspended(), units(milk, 1), units(match, 2), suspended(), ageShown(7), grams(ham, 500), suspended()}
	nums := []int{18, 1000, 1, 275, 2, 2, 7, 495, 3}
	old, plain, young := basketOf(18, oneLine(wine, 1, 1000, 0)), basketOf(0, oneLine(milk, 1, 250, 25), oneLine(match, 2, 2, 0)), basketOf(7, oneLine(ham, 1, 495, 0))
	with := func(acts ...impl.TillAct) []impl.TillAct { return append(slices.Clone(three), acts...) }
	tells := func(more ...int) []impl.TillObs { return told(append(slices.Clone(nums), more...)...) }
	wantTill(t, "three", three, tells(), tillOf(impl.Basket{}, old, plain, young))
	wantTill(t, "the first", with(resumed(0)), tells(1000), tillOf(old, plain, young))
	wantTill(t, "the one in the midst", with(resumed(1)), tells(277), tillOf(plain, old, young))
	wantTill(t, "the last", with(resumed(2)), tells(495), tillOf(young, old, plain))
	wantTill(t, "and put away again, behind the others", with(resumed(0), suspended()), tells(1000, 3), tillOf(impl.Basket{}, plain, young, old))
	wantTill(t, "twice", with(resumed(1), suspended(), resumed(1), suspended()), tells(277, 3, 495, 3), tillOf(impl.Basket{}, old, plain, young))
	wantTill(t, "what was shown meanwhile goes", with(ageShown(99), resumed(2)), tells(99, 495), tillOf(young, old, plain))
	wantTill(t, "with a line behind its own", with(resumed(1), units(match, 1), suspended()), tells(277, 1, 3),
		tillOf(impl.Basket{}, old, young, basketOf(0, oneLine(milk, 1, 250, 25), oneLine(match, 2, 2, 0), oneLine(match, 1, 1, 0))))
	wantTill(t, "without its first line", with(resumed(1), voided(0), suspended(), resumed(0)), tells(277, 275, 3, 1000), tillOf(old, young, basketOf(0, oneLine(match, 2, 2, 0))))
	wantTill(t, "emptied", with(resumed(0), voided(0), resumed(0)), tells(1000, 1000, 277), tillOf(plain, young))
	for _, place := range []int{math.MinInt, -1, 3, 4, impl.MaxKept, math.MaxInt} {
		wantCode(t, "no such basket", three, resumed(place), impl.ErrNone)
		wantCode(t, "no such basket, and lines", with(units(milk, 1)), resumed(place), impl.ErrNone)
	}
	wantCode(t, "lines", with(units(milk, 1)), resumed(0), impl.ErrState)
	wantCode(t, "lines of one that was taken up", with(resumed(0)), resumed(0), impl.ErrState)
	wantCode(t, "none kept", nil, resumed(0), impl.ErrNone)
	wantCode(t, "none kept any more", []impl.TillAct{units(milk, 1), suspended(), resumed(0), voided(0)}, resumed(0), impl.ErrNone)
}

func TestP9SalesThatArePaid(t *testing.T) {
	lines := []impl.TillAct{units(milk, 2), grams(ham, 500), units(match, 1), units(milk, 1)}
	nums, total := []int{550, 495, 1, 275}, 1321
	one := soldOf(1, total, 75, [2]int{1, 750}, [2]int{2, 495}, [2]int{9, 1})
	with := func(acts ...impl.TillAct) []impl.TillAct { return append(slices.Clone(lines), acts...) }
	tells := func(more ...int) []impl.TillObs { return told(append(slices.Clone(nums), more...)...) }
	wantTill(t, "just so", with(paid(total)), tells(0), one)
	wantTill(t, "with one given back", with(paid(total+1)), tells(1), one)
	wantTill(t, "with much given back", with(paid(impl.MaxMoney)), tells(impl.MaxMoney-total), one)
	wantTill(t, "without what was void", with(voided(1), paid(1000)), tells(495, 174), soldOf(1, 826, 75, [2]int{1, 750}, [2]int{9, 1}))
	for num, want := range map[int]int{total: impl.OK, total - 1: impl.ErrShort, 0: impl.ErrShort, -1: impl.ErrShort, math.MinInt: impl.ErrShort, impl.MaxMoney: impl.OK, impl.MaxMoney + 1: impl.ErrRange, math.MaxInt: impl.ErrRange} {
		wantCode(t, "a pay", lines, paid(num), want)
	}
	two := []impl.TillAct{ageShown(18), units(wine, 2), paid(2000), units(milk, 1), paid(300)}
	wantTill(t, "one behind the other", two, told(18, 2000, 0, 275, 25), soldOf(2, 2275, 25, [2]int{1, 2250}))
	late := []impl.TillAct{units(milk, 1), suspended(), priced(ham, 90), paid(100), resumed(0), paid(275)}
	wantTill(t, "of baskets in another order", late, told(275, 1, 90, 10, 275, 0), soldOf(2, 365, 25, [2]int{1, 250}, [2]int{2, 90}))
	kept := tillOf(impl.Basket{}, basketOf(0, oneLine(milk, 1, 250, 25)))
	kept.Sales, kept.Taken, kept.Classes[1] = 1, 90, 90
	wantTill(t, "with a basket kept", late[:4], told(275, 1, 90, 10), kept)
}

func TestP9EachClassHasItsOwn(t *testing.T) {
	acts := []impl.TillAct{ageShown(120)}
	nums, total := []int{120}, 0
	for item, due := range []int{275, 0, 1000, 0, 2000000, 1, 0, 3, 1} {
		act := units(item, 1)
		if item == ham || item == snuff {
			act, due = priced(item, 40+item), 40+item+shopItems()[item].Deposit
		}
		acts, nums, total = append(acts, act), append(nums, due), total+due
	}
	wantTill(t, "all classes", append(acts, paid(total)), told(append(nums, 0)...),
		soldOf(1, total, 1000034, [2]int{1, 1250}, [2]int{2, 41}, [2]int{4, impl.MaxCost}, [2]int{5, 46}, [2]int{6, 3}, [2]int{9, 1}))
}

func TestP9BasketsWithoutLines(t *testing.T) {
	for _, num := range []int{math.MinInt, -1, 0, 1, 100, impl.MaxMoney, impl.MaxMoney + 1, math.MaxInt} {
		for what, ahead := range map[string][]impl.TillAct{"at first": nil, "with an age": {ageShown(18)}, "all void": {units(milk, 1), voided(0)}, "behind a sale": {units(milk, 1), paid(275)}, "put away": {units(milk, 1), suspended()}} {
			wantCode(t, what, ahead, paid(num), impl.ErrState)
			wantCode(t, what, ahead, impl.TillAct{Kind: impl.TaSuspend, Num: num}, impl.ErrState)
		}
	}
}

func TestP9ABasketThatCostsNothing(t *testing.T) {
	line := oneLine(gift, 5, 0, 0)
	wantTill(t, "it is there", []impl.TillAct{units(gift, 5)}, told(0), tillOf(basketOf(0, line)))
	wantTill(t, "it is paid", []impl.TillAct{units(gift, 5), paid(0)}, told(0, 0), soldOf(1, 0, 0))
	wantTill(t, "all is given back", []impl.TillAct{units(gift, 5), paid(impl.MaxMoney)}, told(0, impl.MaxMoney), soldOf(1, 0, 0))
	wantTill(t, "it is taken up again", []impl.TillAct{units(gift, 5), suspended(), resumed(0)}, told(0, 1, 0), tillOf(basketOf(0, line)))
	for num, want := range map[int]int{-1: impl.ErrShort, math.MinInt: impl.ErrShort, impl.MaxMoney + 1: impl.ErrRange} {
		wantCode(t, "a pay", []impl.TillAct{units(gift, 5)}, paid(num), want)
	}
	wantCode(t, "lines that cost nothing are lines", []impl.TillAct{units(milk, 1), suspended(), units(gift, 1)}, resumed(0), impl.ErrState)
}

func TestP9RoomForLines(t *testing.T) {
	full := slices.Repeat([]impl.TillAct{units(match, 1)}, impl.MaxLines)
	wantCode(t, "the last of MaxLines", full[1:], units(match, 1), impl.OK)
	wantCode(t, "one more", full, units(match, 1), impl.ErrFull)
	wantCode(t, "one more that costs nothing", full, units(gift, 1), impl.ErrFull)
	wantCode(t, "one more for which no age is shown", full, units(wine, 1), impl.ErrAge)
	wantCode(t, "one more of a wrong Num", full, units(match, 0), impl.ErrRange)
	wantCode(t, "one in the place of a void one", append(slices.Clone(full), voided(20)), units(match, 1), impl.OK)
	wantCode(t, "one behind a sale", append(slices.Clone(full), paid(impl.MaxLines)), units(match, 1), impl.OK)
	wantCode(t, "one behind a basket put away", append(slices.Clone(full), suspended()), units(match, 1), impl.OK)
	wantCode(t, "one in a basket taken up again", append(slices.Clone(full), suspended(), resumed(0)), units(match, 1), impl.ErrFull)
	_, till, _ := impl.TillRun(shopItems(), append(slices.Clone(full), paid(impl.MaxLines)))
	if !sameTill(till, soldOf(1, impl.MaxLines, 0, [2]int{9, impl.MaxLines})) {
		t.Error("a sale of MaxLines lines", till)
	}
}

// nearlyAll comes to MaxMoney less one cent.
func nearlyAll() []impl.TillAct {
	rest := []impl.TillAct{units(gold, 4), priced(ham, 99999)} // 8000000 and 99999
	for range 19 {
		rest = append(rest, priced(ham, 99999))
	}
	return append(append(slices.Repeat([]impl.TillAct{units(gold, 99)}, 5), rest...), units(match, 19))
}

func TestP9AsMuchAsABasketMayHave(t *testing.T) {
	nearly := nearlyAll()
	_, till, _ := impl.TillRun(shopItems(), nearly)
	if due := dueOf(till.Now); due != impl.MaxMoney-1 {
		t.Fatal("it comes to", due)
	}
	just := append(slices.Clone(nearly), units(match, 1))
	wantCode(t, "just MaxMoney", nearly, units(match, 1), impl.OK)
	wantCode(t, "just MaxMoney by a deposit", nearly, units(crate, 1), impl.OK)
	wantCode(t, "one above", nearly, units(match, 2), impl.ErrOver)
	wantCode(t, "one above by a deposit", nearly, units(crate, 2), impl.ErrOver)
	wantCode(t, "above by amount and deposit together", append(slices.Clone(nearly), voided(0), units(gold, 98)), units(gold, 2), impl.ErrOver)
	wantCode(t, "far above", nearly, units(gold, 99), impl.ErrOver)
	wantCode(t, "above by weight", append([]impl.TillAct{ageShown(16)}, nearly...), grams(snuff, 99999), impl.ErrOver)
	wantCode(t, "above, and no age is shown", nearly, units(wine, 1), impl.ErrAge)
	wantCode(t, "one more behind MaxMoney", just, units(match, 1), impl.ErrOver)
	wantCode(t, "what costs nothing behind MaxMoney", just, units(gift, 1), impl.OK)
	wantCode(t, "MaxMoney is paid just so", just, paid(impl.MaxMoney), impl.OK)
	wantCode(t, "one less", just, paid(impl.MaxMoney-1), impl.ErrShort)
	wantCode(t, "one more", just, paid(impl.MaxMoney+1), impl.ErrRange)
	wantCode(t, "other baskets do not count", append(slices.Clone(just), suspended()), units(gold, 99), impl.OK)
	wantCode(t, "sales do not count", append(slices.Clone(just), paid(impl.MaxMoney)), units(gold, 99), impl.OK)
	wantCode(t, "what is void does not count", append(slices.Clone(just), voided(0)), units(gold, 99), impl.OK)
	filled := slices.Repeat([]impl.TillAct{units(gold, 10)}, impl.MaxLines)
	wantCode(t, "MaxMoney in MaxLines lines", filled[1:], units(gold, 10), impl.OK)
	wantCode(t, "no room, and too much", filled, units(gold, 99), impl.ErrFull)
}

func TestP9SalesOfMaxMoneyAddUp(t *testing.T) {
	sale := append(slices.Repeat([]impl.TillAct{units(gold, 99)}, 5), units(gold, 5), paid(impl.MaxMoney))
	acts := slices.Repeat(sale, impl.MaxActs/len(sale))
	_, till, code := impl.TillRun(shopItems(), acts)
	sales := impl.MaxActs / len(sale)
	if code != impl.OK || !sameTill(till, soldOf(sales, sales*impl.MaxMoney, sales*impl.MaxMoney/2, [2]int{4, sales * impl.MaxMoney / 2})) {
		t.Error("sales of MaxMoney", till, code)
	}
}

func TestP9RoomForBaskets(t *testing.T) {
	var full []impl.TillAct
	for i := range impl.MaxKept {
		wantCode(t, "room", append(slices.Clone(full), units(match, i+1)), suspended(), impl.OK)
		full = append(full, units(match, i+1), suspended())
	}
	wantCode(t, "one more", append(slices.Clone(full), units(milk, 1)), suspended(), impl.ErrFull)
	wantCode(t, "one more without lines", full, suspended(), impl.ErrState)
	wantCode(t, "in the place of one taken up", append(slices.Clone(full), resumed(2)), suspended(), impl.OK)
	wantCode(t, "in the place of one sold", append(slices.Clone(full), resumed(2), paid(3), units(milk, 1)), suspended(), impl.OK)
	wantCode(t, "the last of MaxKept", full, resumed(impl.MaxKept-1), impl.OK)
	wantCode(t, "behind the last of MaxKept", full, resumed(impl.MaxKept), impl.ErrNone)
	last := append(slices.Clone(full), resumed(4), suspended(), resumed(0), paid(1))
	told, till, _ := impl.TillRun(shopItems(), last)
	if told[len(told)-4].Num != 5 || told[len(told)-3].Num != impl.MaxKept || told[len(told)-2].Num != 1 || len(till.Kept) != impl.MaxKept-1 {
		t.Error("MaxKept baskets", told, till)
	}
}

func TestP9WhatAnActDoesNotLookAt(t *testing.T) {
	acts := []impl.TillAct{units(milk, 1), ageShown(18), {Kind: impl.TaSuspend}, resumed(0), units(wine, 1), voided(0), paid(1000)}
	want, till, _ := impl.TillRun(shopItems(), acts)
	for _, text := range oddTexts() {
		for _, num := range oddNumbers() {
			other := slices.Clone(acts)
			for i := range other {
				if other[i].Kind != impl.TaScan {
					other[i].Text = text
				}
				if other[i].Kind == impl.TaSuspend {
					other[i].Num = num
				}
			}
			got, same, code := impl.TillRun(shopItems(), other)
			if code != impl.OK || !slices.Equal(got, want) || !sameTill(till, same) {
				t.Fatalf("with the text %.40q and %d: %v, %v, %d", text, num, got, same, code)
			}
		}
	}
}

func TestP9ActsOfNoKind(t *testing.T) {
	for _, kind := range []int{math.MinInt, -1, 0, 7, 8, math.MaxInt} {
		for _, num := range []int{0, 1, 275, -1} {
			for _, text := range []string{"", "4006381333931", strings.Repeat("1", impl.MaxText+1)} {
				act := impl.TillAct{Kind: kind, Text: text, Num: num}
				wantCode(t, "no kind", nil, act, impl.ErrKind)
				wantCode(t, "no kind behind a line", []impl.TillAct{units(milk, 1), suspended(), units(milk, 1)}, act, impl.ErrKind)
			}
		}
	}
}

func TestP9ManyItemsAndActs(t *testing.T) {
	items := manyItems(impl.MaxItems)
	var acts []impl.TillAct
	for i := range impl.MaxActs {
		acts = append(acts, ageShown(18), scanned(items[i%impl.MaxItems].Code, 1), paid(200), voided(0))
	}
	acts = acts[:impl.MaxActs]
	_, till, code := impl.TillRun(items, acts)
	if code != impl.OK || !sameTill(till, soldOf(50, 6250, 1250, [2]int{1, 5000})) {
		t.Error("MaxItems items and MaxActs acts", till, code)
	}
	wantTillKept(t, "MaxItems items and MaxActs acts", items, acts)
	for count, want := range map[int]int{impl.MaxActs: impl.OK, impl.MaxActs + 1: impl.ErrMany, impl.MaxList: impl.ErrMany, impl.MaxList + 1: impl.ErrLong, 3 * impl.MaxList: impl.ErrLong} {
		for _, act := range []impl.TillAct{{}, ageShown(3), units(milk, 1)} {
			told, till, code := impl.TillRun(shopItems(), slices.Repeat([]impl.TillAct{act}, count))
			if code != want || code == impl.OK && len(told) != count || code != impl.OK && (len(told) != 0 || !sameTill(till, impl.Till{})) {
				t.Errorf("%d acts: %d told, %v, %d; want code %d", count, len(told), till, code, want)
			}
		}
	}
}

func TestP9WhichFaultOfTheWholeComesFirst(t *testing.T) {
	for _, c := range []struct {
		what        string
		items, acts int
		want        int
	}{
		{"right", impl.MaxItems, impl.MaxActs, impl.OK},
		{"many items", impl.MaxItems + 1, impl.MaxActs, impl.ErrBad},
		{"many items and many acts", impl.MaxItems + 1, impl.MaxActs + 1, impl.ErrBad},
		{"as many as a list has", impl.MaxList, impl.MaxList, impl.ErrBad},
		{"many acts", impl.MaxItems, impl.MaxList, impl.ErrMany},
		{"a long list of items", impl.MaxList + 1, 0, impl.ErrLong},
		{"a long list of items and many acts", impl.MaxList + 1, impl.MaxActs + 1, impl.ErrLong},
		{"a long list of acts", 0, impl.MaxList + 1, impl.ErrLong},
		{"a long list of acts and many items", impl.MaxItems + 1, impl.MaxList + 1, impl.ErrLong},
	} {
		told, till, code := impl.TillRun(manyItems(c.items), make([]impl.TillAct, c.acts))
		if code != c.want || code != impl.OK && (len(told) != 0 || !sameTill(till, impl.Till{})) {
			t.Errorf("%s: %d told, %v, %d; want code %d", c.what, len(told), till, code, c.want)
		}
	}
}

package tests

import (
	"fmt"
	"math"
	"slices"
	"strings"
	"testing"

	"loop.example/g00067/impl"
)

func receipt(article string, lot, num, until int) impl.StockAct {
	return impl.StockAct{Kind: impl.SkReceive, Article: article, Lot: lot, Num: num, Until: until}
}

func sale(article string, num int) impl.StockAct {
	return impl.StockAct{Kind: impl.SkSell, Article: article, Num: num}
}

func stockDay(day int) impl.StockAct { return impl.StockAct{Kind: impl.SkDay, Num: day} }

func lotHeld(article string, lot int) impl.StockAct {
	return impl.StockAct{Kind: impl.SkHold, Article: article, Lot: lot}
}

func lotFreed(article string, lot int) impl.StockAct {
	return impl.StockAct{Kind: impl.SkFree, Article: article, Lot: lot}
}

func lotWasted(article string, lot int) impl.StockAct {
	return impl.StockAct{Kind: impl.SkWaste, Article: article, Lot: lot}
}

func lotCounted(article string, lot, num int) impl.StockAct {
	return impl.StockAct{Kind: impl.SkCount, Article: article, Lot: lot, Num: num}
}

func stockActs(acts ...impl.StockAct) []impl.StockAct { return acts }

// behind does not write into what the acts ahead share with others.
func behind(ahead []impl.StockAct, acts ...impl.StockAct) []impl.StockAct {
	return slices.Concat(ahead, acts)
}

func freeLot(article string, lot, num, until int) impl.StockLot {
	return impl.StockLot{Article: article, Lot: lot, Num: num, Until: until}
}

func heldLot(article string, lot, num, until int) impl.StockLot {
	return impl.StockLot{Article: article, Lot: lot, Num: num, Until: until, Held: true}
}

func stockOf(day, received, sold, wasted, shrunk int, lots ...impl.StockLot) impl.Stock {
	return impl.Stock{Day: day, Received: received, Sold: sold, Wasted: wasted, Shrunk: shrunk, Lots: lots}
}

func sameStock(a, b impl.Stock) bool {
	return a.Day == b.Day && a.Received == b.Received && a.Sold == b.Sold && a.Wasted == b.Wasted && a.Shrunk == b.Shrunk && slices.Equal(a.Lots, b.Lots)
}

// brief tells acts whose articles may be very long.
func brief(acts []impl.StockAct) string {
	var told []string
	for _, act := range acts {
		told = append(told, fmt.Sprintf("{%d %.50q %d %d %d}", act.Kind, act.Article, act.Lot, act.Num, act.Until))
	}
	return strings.Join(told, " ")
}

// manyReceipts are lots of one article with the numbers 1, 2, .. and as many units; the last of them ends first.
func manyReceipts(count int) ([]impl.StockAct, []impl.StockLot) {
	var acts []impl.StockAct
	var lots []impl.StockLot
	for i := range count {
		acts = append(acts, receipt("milk", i+1, i+1, 1000-i))
		lots = append(lots, freeLot("milk", i+1, i+1, 1000-i))
	}
	return acts, lots
}

func unitsIn(lots []impl.StockLot) int {
	sum := 0
	for _, lot := range lots {
		sum += lot.Num
	}
	return sum
}

// wantStock asks for what is told of the last act, and what stands behind it; the acts ahead of it have no code.
func wantStock(t *testing.T, what string, acts []impl.StockAct, wantLast impl.StockObs, want impl.Stock) {
	t.Helper()
	told, got, code := impl.StockRun(acts)
	if code != impl.OK || len(told) != len(acts) || told[len(acts)-1] != wantLast || !sameStock(got, want) {
		t.Fatalf("%s: StockRun(%s) = %v, %+v, %d; want %v last, and %+v", what, brief(acts), told, got, code, wantLast, want)
	}
	for i, o := range told[:len(acts)-1] {
		if o.Code != impl.OK {
			t.Errorf("%s: act %d of %s has the code %d", what, i, brief(acts), o.Code)
		}
	}
	wantStockKept(t, what, acts)
}

// wantStockCode asks that the last act has a code, and so changes nothing.
func wantStockCode(t *testing.T, what string, ahead []impl.StockAct, act impl.StockAct, code int) {
	t.Helper()
	_, is, _ := impl.StockRun(ahead)
	wantStock(t, what, behind(ahead, act), impl.StockObs{Code: code}, is)
}

// wantStockKept goes through the acts one more at a time: stock balances, an act with a code changes nothing, one without a code changes its own lots alone, and what was told of an act does not hang on those behind it.
func wantStockKept(t *testing.T, what string, acts []impl.StockAct) {
	t.Helper()
	all, _, _ := impl.StockRun(acts)
	ahead := impl.Stock{}
	for i, act := range acts {
		told, now, code := impl.StockRun(acts[:i+1])
		if code != impl.OK || !slices.Equal(told, all[:i+1]) {
			t.Fatalf("%s: the first %d acts are told as %v, %d; among %s as %v", what, i+1, told, code, brief(acts), all[:i+1])
		}
		if now.Received != unitsIn(now.Lots)+now.Sold+now.Wasted+now.Shrunk {
			t.Fatalf("%s: behind act %d of %s stock does not balance: %+v", what, i, brief(acts), now)
		}
		if fault := lotsFault(now); fault != "" {
			t.Fatalf("%s: behind act %d of %s %s: %+v", what, i, brief(acts), fault, now)
		}
		if fault := stepFault(ahead, now, act, told[i]); fault != "" {
			t.Fatalf("%s: act %d of %s, told as %v, makes %+v of %+v: %s", what, i, brief(acts), told[i], now, ahead, fault)
		}
		ahead = now
	}
}

func lotsFault(stock impl.Stock) string {
	if len(stock.Lots) > impl.MaxStock || stock.Day < 0 || stock.Day > impl.MaxDay {
		return "there are too many lots, or it is no day"
	}
	for i, lot := range stock.Lots {
		if lot.Num < 1 || lot.Num > impl.MaxMany || lot.Lot < 1 || lot.Lot > impl.MaxLotNo || lot.Until < 0 || lot.Until > impl.MaxDay || !impl.NameOK(lot.Article) {
			return fmt.Sprint("there is a lot ", lot)
		}
		if slices.ContainsFunc(stock.Lots[:i], func(l impl.StockLot) bool { return l.Article == lot.Article && l.Lot == lot.Lot }) {
			return fmt.Sprint("there is twice a lot ", lot)
		}
	}
	return ""
}

// stepFault holds what an act made of stock against what it may change.
func stepFault(ahead, now impl.Stock, act impl.StockAct, told impl.StockObs) string {
	if told.Code != impl.OK {
		if told.Num != 0 || !sameStock(ahead, now) {
			return "an act with a code has a Num or changes something"
		}
		return ""
	}
	if act.Kind != impl.SkDay && now.Day != ahead.Day || now.Day < ahead.Day {
		return "another day"
	}
	if act.Kind == impl.SkSell {
		return saleFault(ahead, now, act, told.Num)
	}
	if now.Sold != ahead.Sold {
		return "what is no sale sells"
	}
	others := func(lots []impl.StockLot) []impl.StockLot {
		return slices.DeleteFunc(slices.Clone(lots), func(l impl.StockLot) bool { return l.Article == act.Article && l.Lot == act.Lot })
	}
	if act.Kind != impl.SkDay && !slices.Equal(others(now.Lots), others(ahead.Lots)) || act.Kind == impl.SkDay && !slices.Equal(now.Lots, ahead.Lots) {
		return "other lots are changed"
	}
	return ""
}

// saleFault asks each lot how much was taken of it: nothing of one that is held or late or of another article, and something of one alone when all that goes ahead of it is gone.
func saleFault(ahead, now impl.Stock, act impl.StockAct, from int) string {
	if now.Sold != ahead.Sold+act.Num || unitsIn(now.Lots) != unitsIn(ahead.Lots)-act.Num {
		return "another number of units is sold"
	}
	left := map[string]int{}
	for _, lot := range now.Lots {
		left[fmt.Sprint(lot.Article, " ", lot.Lot)] = lot.Num
	}
	touched := 0
	for i, lot := range ahead.Lots {
		taken := lot.Num - left[fmt.Sprint(lot.Article, " ", lot.Lot)]
		if taken == 0 {
			continue
		}
		touched++
		if lot.Article != act.Article || lot.Held || lot.Until < ahead.Day {
			return fmt.Sprint("sold of the lot ", lot)
		}
		for j, other := range ahead.Lots {
			sooner := other.Until < lot.Until || other.Until == lot.Until && j < i
			if sooner && other.Article == lot.Article && !other.Held && other.Until >= ahead.Day && left[fmt.Sprint(other.Article, " ", other.Lot)] > 0 {
				return fmt.Sprint("sold of ", lot, " while there is ", other)
			}
		}
	}
	if touched != from {
		return fmt.Sprint("sold from ", touched, " lots")
	}
	return ""
}

func TestStockBounds(t *testing.T) {
	got := []int{impl.SkReceive, impl.SkSell, impl.SkDay, impl.SkHold, impl.SkFree, impl.SkWaste, impl.SkCount, impl.MaxStock, impl.MaxLotNo, impl.MaxMany, impl.MaxActs, impl.MaxDay}
	if !slices.Equal(got, []int{1, 2, 3, 4, 5, 6, 7, 60, 1000000, 100000, 200, 100000}) {
		t.Error("constants", got)
	}
}

func TestP15StockBeginsEmpty(t *testing.T) {
	for _, none := range [][]impl.StockAct{nil, {}} {
		told, stock, code := impl.StockRun(none)
		if code != impl.OK || len(told) != 0 || !sameStock(stock, impl.Stock{}) {
			t.Error("StockRun of no acts", told, stock, code)
		}
	}
}

func TestP15ALotIsReceivedBehindTheOthers(t *testing.T) {
	wantStock(t, "one", stockActs(receipt("milk", 1, 10, 9)), impl.StockObs{Num: 10}, stockOf(0, 10, 0, 0, 0, freeLot("milk", 1, 10, 9)))
	wantStock(t, "by their acts, not their ends, numbers or articles", stockActs(receipt("milk", 7, 10, 9), receipt("ham", 8, 2, 20), receipt("milk", 3, 5, 4), receipt("Ham", 8, 1, 9)), impl.StockObs{Num: 1},
		stockOf(0, 18, 0, 0, 0, freeLot("milk", 7, 10, 9), freeLot("ham", 8, 2, 20), freeLot("milk", 3, 5, 4), freeLot("Ham", 8, 1, 9)))
	for _, article := range []string{"a", "Z", "_", "a9", "Ä", "käse", "_9", strings.Repeat("n", impl.MaxName), strings.Repeat("ä", impl.MaxName/2)} {
		wantStock(t, "a name", stockActs(receipt(article, 5, 4, 3)), impl.StockObs{Num: 4}, stockOf(0, 4, 0, 0, 0, freeLot(article, 5, 4, 3)))
	}
}

func TestP15ReceiptsAtTheirEnds(t *testing.T) {
	ahead, there := stockActs(receipt("milk", 5, 9, 50), stockDay(7)), freeLot("milk", 5, 9, 50)
	for _, right := range []impl.StockLot{freeLot("milk", 1, 1, 7), freeLot("milk", impl.MaxLotNo, 1, 7), freeLot("milk", 2, impl.MaxMany, 7), freeLot("milk", 2, 1, impl.MaxDay), freeLot("milk", impl.MaxLotNo-1, impl.MaxMany-1, 8), freeLot("ham", impl.MaxLotNo, impl.MaxMany, impl.MaxDay)} {
		acts := behind(ahead, receipt(right.Article, right.Lot, right.Num, right.Until))
		wantStock(t, "a right one", acts, impl.StockObs{Num: right.Num}, stockOf(7, 9+right.Num, 0, 0, 0, there, right))
	}
	for _, n := range []int{math.MinInt, math.MinInt + 1, -impl.MaxLotNo, -1, 0, impl.MaxLotNo + 1, math.MaxInt32, 1<<32 + 1, math.MaxInt} {
		wantStockCode(t, "no Lot", ahead, receipt("milk", n, 1, 7), impl.ErrRange)
	}
	for _, n := range []int{math.MinInt, math.MinInt + 1, -impl.MaxMany, -1, 0, impl.MaxMany + 1, impl.MaxLotNo, 1<<32 + 1, math.MaxInt} {
		wantStockCode(t, "no Num", ahead, receipt("milk", 1, n, 7), impl.ErrRange)
	}
	for _, n := range []int{math.MinInt, math.MinInt + 1, -1, 0, 6, impl.MaxDay + 1, impl.MaxLotNo, 1<<32 + 7, math.MaxInt} {
		wantStockCode(t, "no Until", ahead, receipt("milk", 1, 1, n), impl.ErrRange)
	}
	wantStockCode(t, "an end ahead of the first day", nil, receipt("milk", 1, 1, -1), impl.ErrRange)
	wantStock(t, "an end on the first day", stockActs(receipt("milk", 1, 1, 0)), impl.StockObs{Num: 1}, stockOf(0, 1, 0, 0, 0, freeLot("milk", 1, 1, 0)))
	wantStock(t, "the last day of all", stockActs(stockDay(impl.MaxDay), receipt("milk", 1, 1, impl.MaxDay), sale("milk", 1)), impl.StockObs{Num: 1}, stockOf(impl.MaxDay, 1, 1, 0, 0))
	wantStockCode(t, "a day behind the last day of all", stockActs(stockDay(impl.MaxDay)), receipt("milk", 1, 1, impl.MaxDay+1), impl.ErrRange)
	for _, article := range textsThatAreNoNames() {
		wantStockCode(t, "no name", ahead, receipt(article, 1, 1, 7), impl.ErrName)
		wantStockCode(t, "no name, first of all", nil, receipt(article, 1, 1, 7), impl.ErrName)
	}
}

func TestP15ALotIsThereOnce(t *testing.T) {
	ahead := stockActs(receipt("milk", 5, 9, 50), receipt("ham", 6, 3, 50))
	wantStockCode(t, "the same again", ahead, receipt("milk", 5, 9, 50), impl.ErrTwice)
	wantStockCode(t, "another Num and Until", ahead, receipt("milk", 5, 1, 3), impl.ErrTwice)
	wantStock(t, "of another Article", behind(ahead, receipt("ham", 5, 1, 3)), impl.StockObs{Num: 1}, stockOf(0, 13, 0, 0, 0, freeLot("milk", 5, 9, 50), freeLot("ham", 6, 3, 50), freeLot("ham", 5, 1, 3)))
	wantStock(t, "of an Article that is nearly alike", behind(ahead, receipt("Milk", 5, 1, 3)), impl.StockObs{Num: 1}, stockOf(0, 13, 0, 0, 0, freeLot("milk", 5, 9, 50), freeLot("ham", 6, 3, 50), freeLot("Milk", 5, 1, 3)))
	wantStockCode(t, "some of it is sold", behind(ahead, sale("milk", 8)), receipt("milk", 5, 9, 50), impl.ErrTwice)
	wantStockCode(t, "it is held", behind(ahead, lotHeld("milk", 5)), receipt("milk", 5, 9, 50), impl.ErrTwice)
	wantStockCode(t, "its time is over", behind(ahead, stockDay(51)), receipt("milk", 5, 9, 60), impl.ErrTwice)
	for what, gone := range map[string]impl.StockAct{"it is sold": sale("milk", 9), "it is wasted": lotWasted("milk", 5), "it is counted away": lotCounted("milk", 5, 0)} {
		_, is, _ := impl.StockRun(behind(ahead, gone))
		is.Received += 2
		is.Lots = append(is.Lots, freeLot("milk", 5, 2, 60))
		wantStock(t, what, behind(ahead, gone, receipt("milk", 5, 2, 60)), impl.StockObs{Num: 2}, is)
	}
	wantStock(t, "one that was held is not held when it comes again", behind(ahead, lotHeld("milk", 5), lotWasted("milk", 5), receipt("milk", 5, 2, 60)), impl.StockObs{Num: 2}, stockOf(0, 14, 0, 9, 0, freeLot("ham", 6, 3, 50), freeLot("milk", 5, 2, 60)))
}

func TestP15WhichFaultOfAReceiptComesFirst(t *testing.T) {
	full, _ := manyReceipts(impl.MaxStock)
	for what, ahead := range map[string][]impl.StockAct{"some": full[:3], "full": full} {
		wantStockCode(t, what+": no name ahead of no Lot", ahead, receipt("", 0, 1, 5), impl.ErrName)
		wantStockCode(t, what+": no name ahead of no Num", ahead, receipt("9", 1, 0, 5), impl.ErrName)
		wantStockCode(t, what+": no name ahead of no Until", ahead, receipt("a b", 1, 1, -1), impl.ErrName)
		wantStockCode(t, what+": no name ahead of no room", ahead, receipt("", 99, 1, 5), impl.ErrName)
		wantStockCode(t, what+": no Num ahead of a lot that is there", ahead, receipt("milk", 2, 0, 5), impl.ErrRange)
		wantStockCode(t, what+": no Until ahead of a lot that is there", ahead, receipt("milk", 2, 1, impl.MaxDay+1), impl.ErrRange)
		wantStockCode(t, what+": a lot that is there ahead of no room", ahead, receipt("milk", 2, 1, 5), impl.ErrTwice)
	}
	wantStockCode(t, "no Lot ahead of no room", full, receipt("ham", 0, 1, 5), impl.ErrRange)
	wantStockCode(t, "no Num ahead of no room", full, receipt("ham", 1, impl.MaxMany+1, 5), impl.ErrRange)
	wantStockCode(t, "no Until ahead of no room", full, receipt("ham", 1, 1, -1), impl.ErrRange)
	wantStockCode(t, "no room", full, receipt("ham", 1, 1, 5), impl.ErrFull)
}

func TestP15AsManyLotsAsThereMayBe(t *testing.T) {
	acts, lots := manyReceipts(impl.MaxStock)
	wantStock(t, "MaxStock", acts, impl.StockObs{Num: impl.MaxStock}, stockOf(0, unitsIn(lots), 0, 0, 0, lots...))
	wantStockCode(t, "one more", acts, receipt("milk", impl.MaxStock+1, 1, 5), impl.ErrFull)
	wantStockCode(t, "one more of another article", acts, receipt("ham", 1, impl.MaxMany, impl.MaxDay), impl.ErrFull)
	wantStockCode(t, "lots that are held take room", behind(acts, lotHeld("milk", 7)), receipt("ham", 1, 1, 5), impl.ErrFull)
	wantStockCode(t, "lots that are late take room", behind(acts, stockDay(impl.MaxDay)), receipt("ham", 1, 1, impl.MaxDay), impl.ErrFull)
	wantStockCode(t, "lots of which some is left take room", behind(acts, sale("milk", impl.MaxStock-1)), receipt("ham", 1, 1, 5), impl.ErrFull)
	last := slices.Concat(lots[:impl.MaxStock-1], []impl.StockLot{freeLot("ham", 1, 4, 5)})
	for _, c := range []struct {
		gone                 impl.StockAct
		sold, wasted, shrunk int
	}{{sale("milk", impl.MaxStock), impl.MaxStock, 0, 0}, {lotWasted("milk", impl.MaxStock), 0, impl.MaxStock, 0}, {lotCounted("milk", impl.MaxStock, 0), 0, 0, impl.MaxStock}} {
		wantStock(t, "one in the place of one that is gone", behind(acts, c.gone, receipt("ham", 1, 4, 5)), impl.StockObs{Num: 4}, stockOf(0, unitsIn(lots)+4, c.sold, c.wasted, c.shrunk, last...))
		wantStockCode(t, "no more than one", behind(acts, c.gone, receipt("ham", 1, 4, 5)), receipt("ham", 2, 4, 5), impl.ErrFull)
	}
	whole := unitsIn(lots)
	wantStock(t, "all of them in one sale", behind(acts, sale("milk", whole)), impl.StockObs{Num: impl.MaxStock}, stockOf(0, whole, whole, 0, 0))
	wantStockCode(t, "one unit more", acts, sale("milk", whole+1), impl.ErrShort)
	wantStock(t, "all but one unit", behind(acts, sale("milk", whole-1)), impl.StockObs{Num: impl.MaxStock - 1}, stockOf(0, whole, whole-1, 0, 0, lots[0]))
}

func TestP15AsManyUnitsAsThereMayBe(t *testing.T) {
	var acts []impl.StockAct
	for i := range impl.MaxStock {
		acts = append(acts, receipt("milk", impl.MaxLotNo-i, impl.MaxMany, impl.MaxDay))
	}
	whole := impl.MaxStock * impl.MaxMany
	wantStock(t, "all at once", behind(acts, sale("milk", whole)), impl.StockObs{Num: impl.MaxStock}, stockOf(0, whole, whole, 0, 0))
	wantStock(t, "all but one", behind(acts, sale("milk", whole-1)), impl.StockObs{Num: impl.MaxStock}, stockOf(0, whole, whole-1, 0, 0, freeLot("milk", impl.MaxLotNo-impl.MaxStock+1, 1, impl.MaxDay)))
	for _, more := range []int{whole + 1, math.MaxInt32, math.MaxInt - 1, math.MaxInt} {
		wantStockCode(t, "more than there is", acts, sale("milk", more), impl.ErrShort)
	}
	again := slices.Repeat(stockActs(receipt("milk", 1, impl.MaxMany, 3), sale("milk", impl.MaxMany)), impl.MaxActs/2)
	wantStock(t, "again and again", again, impl.StockObs{Num: 1}, stockOf(0, impl.MaxActs/2*impl.MaxMany, impl.MaxActs/2*impl.MaxMany, 0, 0))
}

func TestP15AsManyActsAsThereMayBe(t *testing.T) {
	for _, act := range stockActs(impl.StockAct{}, receipt("milk", 1, 1, 1), stockDay(3), sale("milk", 1)) {
		for count, want := range map[int]int{impl.MaxActs: impl.OK, impl.MaxActs + 1: impl.ErrMany, impl.MaxList: impl.ErrMany, impl.MaxList + 1: impl.ErrLong, 3 * impl.MaxList: impl.ErrLong} {
			told, stock, code := impl.StockRun(slices.Repeat(stockActs(act), count))
			if code != want || code == impl.OK && len(told) != count || code != impl.OK && (len(told) != 0 || !sameStock(stock, impl.Stock{})) {
				t.Errorf("%d acts: %d told, %v, %d; want code %d", count, len(told), stock, code, want)
			}
		}
	}
}

func TestP15WhatEndsFirstGoesFirst(t *testing.T) {
	three := stockActs(receipt("milk", 1, 50, 20), receipt("milk", 2, 30, 10), receipt("milk", 3, 40, 30))
	alikeOnes := stockActs(receipt("milk", 9, 5, 9), receipt("milk", 8, 6, 3), receipt("milk", 3, 7, 3), receipt("milk", 5, 8, 3))
	a, b, c := freeLot("milk", 1, 50, 20), freeLot("milk", 2, 30, 10), freeLot("milk", 3, 40, 30)
	for _, c := range []struct {
		what  string
		ahead []impl.StockAct
		num   int
		from  int
		lots  []impl.StockLot
	}{
		{"one unit", three, 1, 1, []impl.StockLot{a, freeLot("milk", 2, 29, 10), c}},
		{"all but one", three, 29, 1, []impl.StockLot{a, freeLot("milk", 2, 1, 10), c}},
		{"a lot to its last unit", three, 30, 1, []impl.StockLot{a, c}},
		{"one and a unit", three, 31, 2, []impl.StockLot{freeLot("milk", 1, 49, 20), c}},
		{"two", three, 80, 2, []impl.StockLot{c}},
		{"two and a part", three, 119, 3, []impl.StockLot{freeLot("milk", 3, 1, 30)}},
		{"all", three, 120, 3, nil},
		{"beside another article that ends sooner", behind(three, receipt("ham", 1, 5, 1)), 31, 2, []impl.StockLot{freeLot("milk", 1, 49, 20), c, freeLot("ham", 1, 5, 1)}},
		{"one that is held is passed by", behind(three, lotHeld("milk", 2)), 51, 2, []impl.StockLot{heldLot("milk", 2, 30, 10), freeLot("milk", 3, 39, 30)}},
		{"one that was held goes first again", behind(three, lotHeld("milk", 2), lotFreed("milk", 2)), 1, 1, []impl.StockLot{a, freeLot("milk", 2, 29, 10), c}},
		{"of alike ones the first", alikeOnes, 1, 1, []impl.StockLot{freeLot("milk", 9, 5, 9), freeLot("milk", 8, 5, 3), freeLot("milk", 3, 7, 3), freeLot("milk", 5, 8, 3)}},
		{"of alike ones the next", alikeOnes, 8, 2, []impl.StockLot{freeLot("milk", 9, 5, 9), freeLot("milk", 3, 5, 3), freeLot("milk", 5, 8, 3)}},
		{"behind alike ones", alikeOnes, 22, 4, []impl.StockLot{freeLot("milk", 9, 4, 9)}},
		{"of alike ones the first that is free", behind(alikeOnes, lotHeld("milk", 8)), 9, 2, []impl.StockLot{freeLot("milk", 9, 5, 9), heldLot("milk", 8, 6, 3), freeLot("milk", 5, 6, 3)}},
	} {
		_, is, _ := impl.StockRun(c.ahead)
		is.Sold, is.Lots = is.Sold+c.num, c.lots
		wantStock(t, c.what, behind(c.ahead, sale("milk", c.num)), impl.StockObs{Num: c.from}, is)
	}
	wantStock(t, "on its very last day", behind(three, stockDay(10), sale("milk", 31)), impl.StockObs{Num: 2}, stockOf(10, 120, 31, 0, 0, freeLot("milk", 1, 49, 20), c))
	wantStock(t, "the day behind it", behind(three, stockDay(11), sale("milk", 31)), impl.StockObs{Num: 1}, stockOf(11, 120, 31, 0, 0, freeLot("milk", 1, 19, 20), b, c))
	wantStock(t, "with numbers that mean nothing", behind(three, impl.StockAct{Kind: impl.SkSell, Article: "milk", Lot: 1, Num: 30, Until: math.MinInt}), impl.StockObs{Num: 1}, stockOf(0, 120, 30, 0, 0, a, c))
}

// mixedLots has, on day 5, of milk 3 units that can be sold, 4 that are held, 5 whose time is over, and 6 of which both is so.
func mixedLots() []impl.StockAct {
	return stockActs(receipt("milk", 1, 6, 4), receipt("milk", 2, 4, 5), receipt("milk", 3, 5, 0), receipt("ham", 1, 100, 9), receipt("milk", 4, 3, 5), lotHeld("milk", 1), lotHeld("milk", 2), stockDay(5))
}

func TestP15WhyASaleCanNotBe(t *testing.T) {
	for num := 1; num <= 3; num++ {
		told := wantStockByWords(t, behind(mixedLots(), sale("milk", num)))
		if last := told[len(told)-1]; last != (impl.StockObs{Num: 1}) {
			t.Errorf("%d units: %v", num, last)
		}
	}
	for num := 4; num <= 20; num++ {
		want := impl.ErrHeld
		if num > 7 {
			want = impl.ErrLate
		}
		if num > 18 {
			want = impl.ErrShort
		}
		wantStockCode(t, fmt.Sprint(num, " units"), mixedLots(), sale("milk", num), want)
	}
	for _, c := range []struct {
		what  string
		ahead []impl.StockAct
		num   int
		want  int
	}{
		{"all is held", stockActs(receipt("milk", 1, 5, 9), lotHeld("milk", 1)), 5, impl.ErrHeld},
		{"all is held and too little", stockActs(receipt("milk", 1, 5, 9), lotHeld("milk", 1)), 6, impl.ErrShort},
		{"some is held", stockActs(receipt("milk", 1, 5, 9), receipt("milk", 2, 1, 9), lotHeld("milk", 1)), 2, impl.ErrHeld},
		{"held, on its last day", stockActs(receipt("milk", 1, 5, 9), lotHeld("milk", 1), stockDay(9)), 1, impl.ErrHeld},
		{"held, a day too late", stockActs(receipt("milk", 1, 5, 9), lotHeld("milk", 1), stockDay(10)), 1, impl.ErrLate},
		{"all is late", stockActs(receipt("milk", 1, 5, 9), stockDay(10)), 5, impl.ErrLate},
		{"all is late and too little", stockActs(receipt("milk", 1, 5, 9), stockDay(10)), 6, impl.ErrShort},
		{"late and held later", stockActs(receipt("milk", 1, 5, 9), stockDay(10), lotHeld("milk", 1)), 1, impl.ErrLate},
		{"what is held and what is late are both needed", stockActs(receipt("milk", 1, 5, 9), receipt("milk", 2, 5, 20), lotHeld("milk", 2), stockDay(10)), 6, impl.ErrLate},
		{"what is held is enough, and something is late", stockActs(receipt("milk", 1, 5, 9), receipt("milk", 2, 5, 20), lotHeld("milk", 2), stockDay(10)), 5, impl.ErrHeld},
		{"set free, and too late", stockActs(receipt("milk", 1, 5, 9), lotHeld("milk", 1), stockDay(10), lotFreed("milk", 1)), 1, impl.ErrLate},
		{"what is wasted is not there", stockActs(receipt("milk", 1, 5, 9), stockDay(10), lotWasted("milk", 1)), 1, impl.ErrShort},
		{"what is counted away is not there", stockActs(receipt("milk", 1, 5, 9), lotHeld("milk", 1), lotCounted("milk", 1, 2)), 3, impl.ErrShort},
		{"of another article", stockActs(receipt("milk", 1, 5, 9), receipt("ham", 1, 5, 9), lotHeld("milk", 1)), 6, impl.ErrShort},
		{"nothing is there", nil, 1, impl.ErrShort},
	} {
		wantStockCode(t, c.what, c.ahead, sale("milk", c.num), c.want)
	}
}

func TestP15SalesOfNothingAndOfWhatThereIsNot(t *testing.T) {
	for _, ahead := range [][]impl.StockAct{nil, mixedLots()} {
		for _, num := range []int{math.MinInt, math.MinInt + 1, -impl.MaxMany, -3, -1, 0} {
			for _, article := range append(textsThatAreNoNames(), "milk", "ham", "bread") {
				wantStockCode(t, "nothing, ahead of all else", ahead, sale(article, num), impl.ErrRange)
			}
		}
		for _, num := range []int{1, 3, 19, 101, impl.MaxMany + 1, math.MaxInt - 1, math.MaxInt} {
			for _, article := range append(textsThatAreNoNames(), "bread", "Milk", "mil", "milk_", "milk\x00") {
				wantStockCode(t, "no such article", ahead, sale(article, num), impl.ErrShort)
			}
		}
	}
}

func TestP15DaysGoOn(t *testing.T) {
	ahead, a, b := stockActs(receipt("milk", 1, 5, 9), receipt("ham", 1, 5, 7), stockDay(7)), freeLot("milk", 1, 5, 9), freeLot("ham", 1, 5, 7)
	for _, day := range []int{7, 8, 9, 10, impl.MaxDay - 1, impl.MaxDay} {
		wantStock(t, "no lot goes", behind(ahead, stockDay(day)), impl.StockObs{Num: day}, stockOf(day, 10, 0, 0, 0, a, b))
		act := impl.StockAct{Kind: impl.SkDay, Article: "ham", Lot: 1, Num: day, Until: math.MinInt}
		wantStock(t, "with an article and numbers that mean nothing", behind(ahead, act), impl.StockObs{Num: day}, stockOf(day, 10, 0, 0, 0, a, b))
	}
	for _, day := range []int{math.MinInt, -7, -1, 0, 6, impl.MaxDay + 1, 1<<32 + 7, math.MaxInt} {
		wantStockCode(t, "no day to go to", ahead, stockDay(day), impl.ErrRange)
	}
	wantStock(t, "the first day stays", stockActs(stockDay(0)), impl.StockObs{}, impl.Stock{})
	wantStockCode(t, "ahead of the first day", nil, stockDay(-1), impl.ErrRange)
	wantStock(t, "the last day stays", stockActs(stockDay(impl.MaxDay), stockDay(impl.MaxDay)), impl.StockObs{Num: impl.MaxDay}, stockOf(impl.MaxDay, 0, 0, 0, 0))
	wantStockCode(t, "back from the last day", stockActs(stockDay(impl.MaxDay)), stockDay(impl.MaxDay-1), impl.ErrRange)
}

func TestP15LotsAreHeldAndSetFree(t *testing.T) {
	two, a, b := stockActs(receipt("milk", 1, 5, 9), receipt("milk", 2, 7, 9)), freeLot("milk", 1, 5, 9), freeLot("milk", 2, 7, 9)
	heldA, heldB := heldLot("milk", 1, 5, 9), heldLot("milk", 2, 7, 9)
	wantStock(t, "one is held", behind(two, lotHeld("milk", 2)), impl.StockObs{Num: 7}, stockOf(0, 12, 0, 0, 0, a, heldB))
	wantStock(t, "both are held", behind(two, lotHeld("milk", 2), lotHeld("milk", 1)), impl.StockObs{Num: 5}, stockOf(0, 12, 0, 0, 0, heldA, heldB))
	wantStock(t, "one is set free", behind(two, lotHeld("milk", 2), lotHeld("milk", 1), lotFreed("milk", 2)), impl.StockObs{Num: 7}, stockOf(0, 12, 0, 0, 0, heldA, b))
	wantStock(t, "and held again", behind(two, lotHeld("milk", 2), lotFreed("milk", 2), lotHeld("milk", 2)), impl.StockObs{Num: 7}, stockOf(0, 12, 0, 0, 0, a, heldB))
	wantStock(t, "what is left of one", behind(two, sale("milk", 8), lotHeld("milk", 2)), impl.StockObs{Num: 4}, stockOf(0, 12, 8, 0, 0, heldLot("milk", 2, 4, 9)))
	wantStock(t, "one that is late", behind(two, stockDay(10), lotHeld("milk", 1)), impl.StockObs{Num: 5}, stockOf(10, 12, 0, 0, 0, heldA, b))
	wantStock(t, "one that is late is set free", behind(two, lotHeld("milk", 1), stockDay(10), lotFreed("milk", 1)), impl.StockObs{Num: 5}, stockOf(10, 12, 0, 0, 0, a, b))
	wantStockCode(t, "held twice", behind(two, lotHeld("milk", 2)), lotHeld("milk", 2), impl.ErrState)
	wantStockCode(t, "held twice, late", behind(two, lotHeld("milk", 2), stockDay(10)), lotHeld("milk", 2), impl.ErrState)
	wantStockCode(t, "free, and never held", two, lotFreed("milk", 2), impl.ErrState)
	wantStockCode(t, "free, while another is held", behind(two, lotHeld("milk", 1)), lotFreed("milk", 2), impl.ErrState)
	wantStockCode(t, "set free twice", behind(two, lotHeld("milk", 2), lotFreed("milk", 2)), lotFreed("milk", 2), impl.ErrState)
	for _, n := range oddNumbers() {
		hold, free := impl.StockAct{Kind: impl.SkHold, Article: "milk", Lot: 2, Num: n, Until: n}, impl.StockAct{Kind: impl.SkFree, Article: "milk", Lot: 2, Num: n, Until: n}
		wantStock(t, "with numbers that mean nothing", behind(two, hold), impl.StockObs{Num: 7}, stockOf(0, 12, 0, 0, 0, a, heldB))
		wantStock(t, "with numbers that mean nothing", behind(two, hold, free), impl.StockObs{Num: 7}, stockOf(0, 12, 0, 0, 0, a, b))
		wantStockCode(t, "with numbers that mean nothing", behind(two, hold), hold, impl.ErrState)
		wantStockCode(t, "with numbers that mean nothing", two, free, impl.ErrState)
	}
}

func TestP15LotsAreWasted(t *testing.T) {
	three, a, c := stockActs(receipt("milk", 1, 5, 9), receipt("milk", 2, 7, 9), receipt("ham", 2, 3, 9)), freeLot("milk", 1, 5, 9), freeLot("ham", 2, 3, 9)
	wantStock(t, "one", behind(three, lotWasted("milk", 2)), impl.StockObs{Num: 7}, stockOf(0, 15, 0, 7, 0, a, c))
	wantStock(t, "one that is held", behind(three, lotHeld("milk", 2), lotWasted("milk", 2)), impl.StockObs{Num: 7}, stockOf(0, 15, 0, 7, 0, a, c))
	wantStock(t, "one that is late", behind(three, stockDay(10), lotWasted("milk", 2)), impl.StockObs{Num: 7}, stockOf(10, 15, 0, 7, 0, a, c))
	wantStock(t, "what is left of one", behind(three, sale("milk", 8), lotWasted("milk", 2)), impl.StockObs{Num: 4}, stockOf(0, 15, 8, 4, 0, c))
	wantStock(t, "two", behind(three, lotWasted("milk", 1), lotWasted("ham", 2)), impl.StockObs{Num: 3}, stockOf(0, 15, 0, 8, 0, freeLot("milk", 2, 7, 9)))
	wantStockCode(t, "twice", behind(three, lotWasted("milk", 2)), lotWasted("milk", 2), impl.ErrNone)
	for _, n := range oddNumbers() {
		act := impl.StockAct{Kind: impl.SkWaste, Article: "milk", Lot: 2, Num: n, Until: n}
		wantStock(t, "with numbers that mean nothing", behind(three, act), impl.StockObs{Num: 7}, stockOf(0, 15, 0, 7, 0, a, c))
	}
}

func TestP15LotsAreCounted(t *testing.T) {
	two, b := stockActs(receipt("milk", 1, 5, 9), receipt("ham", 1, 7, 9)), freeLot("ham", 1, 7, 9)
	for _, num := range []int{1, 2, 3, 4, 5} {
		wantStock(t, "some is there", behind(two, lotCounted("milk", 1, num)), impl.StockObs{Num: 5 - num}, stockOf(0, 12, 0, 0, 5-num, freeLot("milk", 1, num, 9), b))
		wantStock(t, "one that is held stays so", behind(two, lotHeld("milk", 1), lotCounted("milk", 1, num)), impl.StockObs{Num: 5 - num}, stockOf(0, 12, 0, 0, 5-num, heldLot("milk", 1, num, 9), b))
		wantStock(t, "one that is late", behind(two, stockDay(10), lotCounted("milk", 1, num)), impl.StockObs{Num: 5 - num}, stockOf(10, 12, 0, 0, 5-num, freeLot("milk", 1, num, 9), b))
	}
	wantStock(t, "nothing is there", behind(two, lotCounted("milk", 1, 0)), impl.StockObs{Num: 5}, stockOf(0, 12, 0, 0, 5, b))
	wantStock(t, "nothing is there of one that is held", behind(two, lotHeld("milk", 1), lotCounted("milk", 1, 0)), impl.StockObs{Num: 5}, stockOf(0, 12, 0, 0, 5, b))
	wantStock(t, "twice", behind(two, lotCounted("milk", 1, 4), lotCounted("milk", 1, 1)), impl.StockObs{Num: 3}, stockOf(0, 12, 0, 0, 4, freeLot("milk", 1, 1, 9), b))
	wantStock(t, "what a sale left, to its last unit", behind(two, sale("milk", 3), lotCounted("milk", 1, 2)), impl.StockObs{}, stockOf(0, 12, 3, 0, 0, freeLot("milk", 1, 2, 9), b))
	wantStockCode(t, "more than what a sale left", behind(two, sale("milk", 3)), lotCounted("milk", 1, 3), impl.ErrRange)
	wantStockCode(t, "more than what a count left", behind(two, lotCounted("milk", 1, 4)), lotCounted("milk", 1, 5), impl.ErrRange)
	wantStockCode(t, "what is counted away", behind(two, lotCounted("milk", 1, 0)), lotCounted("milk", 1, 0), impl.ErrNone)
	for _, num := range []int{math.MinInt, -5, -1, 6, 7, impl.MaxMany, impl.MaxMany + 1, 1<<32 + 3, math.MaxInt} {
		wantStockCode(t, "not from nothing to what it has", two, lotCounted("milk", 1, num), impl.ErrRange)
	}
	wantStock(t, "with an Until that means nothing", behind(two, impl.StockAct{Kind: impl.SkCount, Article: "milk", Lot: 1, Num: 2, Until: math.MinInt}), impl.StockObs{Num: 3}, stockOf(0, 12, 0, 0, 3, freeLot("milk", 1, 2, 9), b))
}

func TestP15LotsThatThereAreNot(t *testing.T) {
	ahead := stockActs(receipt("milk", 1, 5, 9), receipt("ham", 2, 7, 9), receipt("milk", 3, 1, 9), sale("milk", 5), lotHeld("ham", 2))
	none := []impl.StockAct{}
	for _, lot := range append(oddNumbers(), impl.MaxLotNo, 1, 4, 1<<32+2, -2, -3) {
		if lot != 2 {
			none = append(none, impl.StockAct{Article: "ham", Lot: lot})
		}
		if lot != 3 {
			none = append(none, impl.StockAct{Article: "milk", Lot: lot})
		}
	}
	for _, article := range append(textsThatAreNoNames(), "bread", "Ham", "ha", "hamm", "ham\x00") {
		none = append(none, impl.StockAct{Article: article, Lot: 2}, impl.StockAct{Article: article, Lot: 3})
	}
	for _, act := range none {
		for _, act.Kind = range []int{impl.SkHold, impl.SkFree, impl.SkWaste, impl.SkCount} {
			for _, act.Num = range []int{-1, 0, 1, 8} { // there being none comes ahead of a Num that is none
				wantStockCode(t, "no such lot", ahead, act, impl.ErrNone)
			}
			wantStockCode(t, "nothing is there", nil, act, impl.ErrNone)
		}
	}
}

func TestP15KindsThatThereAreNot(t *testing.T) {
	for _, kind := range []int{math.MinInt, -7, -1, 0, 8, 9, 256 + impl.SkSell, 1<<32 + impl.SkWaste, math.MaxInt} {
		for _, act := range stockActs(receipt("milk", 9, 1, 9), receipt("", 0, 0, -1), sale("milk", 1), sale("milk", 0), stockDay(6), lotWasted("milk", 1), lotCounted("bread", 1, 0)) {
			act.Kind = kind
			wantStockCode(t, "no kind", mixedLots(), act, impl.ErrKind)
			wantStockCode(t, "no kind, first of all", nil, act, impl.ErrKind)
		}
	}
}

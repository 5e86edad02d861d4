package tests

import (
	"fmt"
	"math/rand/v2"
	"slices"
	"testing"

	"loop.example/g00067/impl"
)

// stockUnit is one single unit, with its lot and which receipt it came by.
type stockUnit struct {
	article             string
	lot, until, receipt int
	held                bool
}

// stockByWords goes unit by unit, by the words of the document alone; the units of a lot stand side by side.
type stockByWords struct {
	book     impl.Stock
	receipts int
	there    []stockUnit
}

func (w *stockByWords) countOf(is func(u stockUnit) bool) int {
	count := 0
	for _, u := range w.there {
		if is(u) {
			count++
		}
	}
	return count
}

func (w *stockByWords) lots() []impl.StockLot {
	var lots []impl.StockLot
	for i, u := range w.there {
		if i == 0 || w.there[i-1].receipt != u.receipt {
			lots = append(lots, impl.StockLot{Article: u.article, Lot: u.lot, Until: u.until, Held: u.held})
		}
		lots[len(lots)-1].Num++
	}
	return lots
}

func (w *stockByWords) inDate(u stockUnit) bool { return u.until >= w.book.Day }

func (w *stockByWords) receive(act impl.StockAct) (int, int) {
	switch {
	case !impl.NameOK(act.Article):
		return impl.ErrName, 0
	case act.Lot < 1 || act.Lot > 1000000 || act.Num < 1 || act.Num > 100000 || act.Until < w.book.Day || act.Until > 100000:
		return impl.ErrRange, 0
	case w.countOf(func(u stockUnit) bool { return u.article == act.Article && u.lot == act.Lot }) > 0:
		return impl.ErrTwice, 0
	case len(w.lots()) >= 60:
		return impl.ErrFull, 0
	}
	w.receipts++
	w.there = append(w.there, slices.Repeat([]stockUnit{{article: act.Article, lot: act.Lot, until: act.Until, receipt: w.receipts}}, act.Num)...)
	w.book.Received += act.Num
	return impl.OK, act.Num
}

// soldFirst is the place of the unit that goes first, or -1.
func (w *stockByWords) soldFirst(article string) int {
	first := -1
	for place, u := range w.there {
		if u.article == article && w.inDate(u) && !u.held && (first < 0 || u.until < w.there[first].until) {
			first = place
		}
	}
	return first
}

func (w *stockByWords) sell(article string, num int) (int, int) {
	if num < 1 {
		return impl.ErrRange, 0
	}
	sellable := w.countOf(func(u stockUnit) bool { return u.article == article && w.inDate(u) && !u.held })
	dated := w.countOf(func(u stockUnit) bool { return u.article == article && w.inDate(u) })
	all := w.countOf(func(u stockUnit) bool { return u.article == article })
	if sellable < num {
		switch {
		case dated >= num:
			return impl.ErrHeld, 0
		case all >= num:
			return impl.ErrLate, 0
		}
		return impl.ErrShort, 0
	}
	from := map[int]int{}
	for range num {
		place := w.soldFirst(article)
		from[w.there[place].receipt]++
		w.there = slices.Delete(w.there, place, place+1)
		w.book.Sold++
	}
	return impl.OK, len(from)
}

func (w *stockByWords) ofLot(act impl.StockAct) (int, int) {
	has, held := 0, false
	for _, u := range w.there {
		if u.article == act.Article && u.lot == act.Lot {
			has, held = has+1, u.held
		}
	}
	switch {
	case has == 0:
		return impl.ErrNone, 0
	case act.Kind == impl.SkHold && held, act.Kind == impl.SkFree && !held:
		return impl.ErrState, 0
	case act.Kind == impl.SkCount && (act.Num < 0 || act.Num > has):
		return impl.ErrRange, 0
	}
	keep, left := has, []stockUnit(nil)
	switch act.Kind {
	case impl.SkWaste:
		keep = 0
		w.book.Wasted += has
	case impl.SkCount:
		keep = act.Num
		w.book.Shrunk += has - keep
	}
	for _, u := range w.there {
		if u.article == act.Article && u.lot == act.Lot {
			if keep == 0 {
				continue
			}
			keep--
			u.held = act.Kind == impl.SkHold || u.held && act.Kind != impl.SkFree
		}
		left = append(left, u)
	}
	w.there = left
	if act.Kind == impl.SkCount {
		return impl.OK, has - act.Num
	}
	return impl.OK, has
}

func (w *stockByWords) do(act impl.StockAct) (int, int) {
	switch act.Kind {
	case impl.SkReceive:
		return w.receive(act)
	case impl.SkSell:
		return w.sell(act.Article, act.Num)
	case impl.SkDay:
		if act.Num < w.book.Day || act.Num > 100000 {
			return impl.ErrRange, 0
		}
		w.book.Day = act.Num
		return impl.OK, act.Num
	case impl.SkHold, impl.SkFree, impl.SkWaste, impl.SkCount:
		return w.ofLot(act)
	}
	return impl.ErrKind, 0
}

func stockRunByWords(acts []impl.StockAct) ([]impl.StockObs, impl.Stock) {
	var w stockByWords
	var told []impl.StockObs
	for _, act := range acts {
		code, num := w.do(act)
		told = append(told, impl.StockObs{Code: code, Num: num})
	}
	w.book.Lots = w.lots()
	return told, w.book
}

func wantStockByWords(t *testing.T, acts []impl.StockAct) []impl.StockObs {
	t.Helper()
	told, got, code := impl.StockRun(acts)
	wantTold, want := stockRunByWords(acts)
	if code != impl.OK || !slices.Equal(told, wantTold) || !sameStock(got, want) {
		t.Fatalf("StockRun(%v) = %v, %+v, %d; want %v, %+v", acts, told, got, code, wantTold, want)
	}
	return told
}

// stockDraw tells how acts are drawn: of these articles and so many lots of each, so many units and days at most, kinds by their weights.
type stockDraw struct {
	articles          []string
	lots, units, days int
	weights           []int
}

func (d stockDraw) acts(r *rand.Rand, count int) []impl.StockAct {
	var kinds []int
	for kind, weight := range d.weights {
		kinds = append(kinds, alike(kind, weight)...)
	}
	var acts []impl.StockAct
	day := 0
	for range count {
		act := impl.StockAct{Kind: kinds[r.IntN(len(kinds))], Article: d.articles[r.IntN(len(d.articles))], Lot: r.IntN(d.lots + 1), Num: r.IntN(d.units + 1)}
		switch act.Kind {
		case impl.SkReceive:
			act.Until = day - 1 + r.IntN(d.days+1)
		case impl.SkSell:
			act.Num = r.IntN(2*d.units + 1)
		case impl.SkDay:
			act.Num = day - 1 + r.IntN(4)
			day = max(day, act.Num)
		}
		acts = append(acts, act)
	}
	return acts
}

// stockDraws have runs in which few lots are sold, held and late again and again, and runs with more lots than there is room for.
func stockDraws(units int) []stockDraw {
	return []stockDraw{
		{append(someNames(1), "9"), 6, units, 6, []int{1, 30, 30, 3, 8, 6, 2, 5}},
		{someNames(3), 5, units, 9, []int{1, 30, 25, 4, 10, 5, 3, 6}},
		{append(someNames(2), ""), 60, units, 40, []int{0, 60, 3, 1, 5, 3, 1, 2}},
		{someNames(2), 4, units, 4, []int{0, 30, 20, 8, 15, 10, 5, 5}},
	}
}

func TestP15LikeUnitByUnit(t *testing.T) {
	r := fixed()
	seen := map[string]int{}
	for round := range 800 {
		acts := stockDraws(1 + r.IntN(8))[round%4].acts(r, r.IntN(impl.MaxActs+1))
		for i, o := range wantStockByWords(t, acts) {
			seen[fmt.Sprint(acts[i].Kind, " ", impl.CodeWord(o.Code))]++
			if acts[i].Kind == impl.SkSell && o.Num > 2 {
				seen["a sale of several lots"]++
			}
		}
	}
	for _, drawn := range []string{"0 kind", "1 ok", "1 name", "1 range", "1 twice", "1 full", "2 ok", "2 range", "2 held", "2 late", "2 short", "3 ok", "3 range", "4 ok", "4 none", "4 state", "5 ok", "5 none", "5 state", "6 ok", "6 none", "7 ok", "7 none", "7 range", "a sale of several lots"} {
		if seen[drawn] < 10 {
			t.Error("hardly an act drawn has the kind and code", drawn, seen)
		}
	}
}

func TestP15WhatIsDrawnBalances(t *testing.T) {
	r := fixed()
	for round := range 60 {
		wantStockKept(t, "drawn", stockDraws([]int{3, 50, impl.MaxMany}[round%3])[round/3%4].acts(r, impl.MaxActs))
	}
}

// smallLots are all that a lot of one or two units can be on day 5: late, on its last day or not, held or not.
func smallLots() []impl.StockLot {
	var lots []impl.StockLot
	for until := 4; until <= 6; until++ {
		for num := 1; num <= 2; num++ {
			lots = append(lots, freeLot("milk", 0, num, until), heldLot("milk", 0, num, until))
		}
	}
	return lots
}

// Three small lots of every kind, and every sale of what they have and of one unit more.
func TestP15EverySmallSale(t *testing.T) {
	small := smallLots()
	for number := range len(small) * len(small) * len(small) {
		var acts []impl.StockAct
		units := 0
		for lot, place := range []int{number % len(small), number / len(small) % len(small), number / len(small) / len(small)} {
			acts = append(acts, receipt("milk", 9-lot, small[place].Num, small[place].Until))
			units += small[place].Num
			if small[place].Held {
				acts = append(acts, lotHeld("milk", 9-lot))
			}
		}
		acts = append(acts, receipt("ham", 9, 50, 5), stockDay(5))
		for num := range units + 2 {
			wantStockByWords(t, behind(acts, sale("milk", num), sale("milk", 1)))
		}
	}
}

// Acts with a code may as well not be there.
func TestP15AnActWithACodeChangesNothing(t *testing.T) {
	r := fixed()
	for round := range 200 {
		acts := stockDraws(6)[round%4].acts(r, impl.MaxActs)
		told, got, _ := impl.StockRun(acts)
		var without []impl.StockAct
		var wantTold []impl.StockObs
		for i, o := range told {
			if o.Code == impl.OK {
				without, wantTold = append(without, acts[i]), append(wantTold, o)
			}
		}
		again, same, code := impl.StockRun(without)
		if code != impl.OK || !slices.Equal(again, wantTold) || !sameStock(got, same) {
			t.Errorf("%v without the acts that had a code: %v, %+v; with them: %+v", acts, again, same, got)
		}
	}
}

// Acts of one article hang on no other, but for the day, as long as there is room.
func TestP15ArticlesSideBySide(t *testing.T) {
	r := fixed()
	for range 200 {
		draw := stockDraws(6)[1]
		acts := draw.acts(r, impl.MaxActs)
		told, got, _ := impl.StockRun(acts)
		for _, article := range draw.articles {
			var own []impl.StockAct
			var ownTold []impl.StockObs
			for i, act := range acts {
				if act.Kind == impl.SkDay || act.Article == article {
					own, ownTold = append(own, act), append(ownTold, told[i])
				}
			}
			alone, ownStock, code := impl.StockRun(own)
			beside := slices.DeleteFunc(slices.Clone(got.Lots), func(lot impl.StockLot) bool { return lot.Article != article })
			if code != impl.OK || !slices.Equal(alone, ownTold) || !slices.Equal(ownStock.Lots, beside) {
				t.Fatalf("%s alone: %v, %v; beside others %v, %v, of %v", article, alone, ownStock, ownTold, beside, acts)
			}
		}
	}
}

package tests

import (
	"math/rand/v2"
	"slices"
	"strings"
	"testing"

	"loop.example/g00067/impl"
)

// scannedLine stays in the log, whatever becomes of it; basket is the number of its buyer.
type scannedLine struct {
	impl.Line
	basket int
	void   bool
}

// tillByWords keeps a log of all lines that were ever scanned, and which buyer's basket is where; all else is found by going through it.
type tillByWords struct {
	items        []impl.Item
	log          []scannedLine
	now, baskets int
	shown        map[int]int
	kept, sold   []int
}

func (w *tillByWords) linesIn(basket int) []int {
	var places []int
	for place, line := range w.log {
		if line.basket == basket && !line.void {
			places = append(places, place)
		}
	}
	return places
}

func (w *tillByWords) totalOf(basket int) int {
	sum := 0
	for _, place := range w.linesIn(basket) {
		sum += w.log[place].Amount + w.log[place].Deposit
	}
	return sum
}

func (w *tillByWords) basket(number int) impl.Basket {
	told := impl.Basket{Shown: w.shown[number]}
	for _, place := range w.linesIn(number) {
		told.Lines = append(told.Lines, w.log[place].Line)
	}
	return told
}

func (w *tillByWords) till() impl.Till {
	till := emptyTill()
	till.Now, till.Sales = w.basket(w.now), len(w.sold)
	for _, number := range w.kept {
		till.Kept = append(till.Kept, w.basket(number))
	}
	for _, number := range w.sold {
		till.Taken += w.totalOf(number)
		for _, line := range w.basket(number).Lines {
			till.Deposits += line.Deposit
			till.Classes[w.items[line.Item].Class-1] += line.Amount
		}
	}
	return till
}

func (w *tillByWords) nextBuyer() {
	w.baskets++
	w.now = w.baskets
}

func scanByWords(text string) (impl.Scan, int) {
	switch {
	case len(text) > 65536:
		return impl.Scan{}, impl.ErrLong
	case len(text) != 8 && len(text) != 13, strings.Trim(text, "0123456789") != "":
		return impl.Scan{}, impl.ErrSyntax
	case !balances(text):
		return impl.Scan{}, impl.ErrSum
	case len(text) == 8 || text[0] != '2':
		return impl.Scan{Kind: impl.ScUnit, Article: text}, impl.OK
	case text[1] > '1':
		return impl.Scan{}, impl.ErrKind
	}
	value := 0
	for _, digit := range text[7:12] {
		value = 10*value + int(digit-'0')
	}
	return impl.Scan{Kind: int(text[1]-'0') + impl.ScGrams, Article: text[2:7], Value: value}, impl.OK
}

func (w *tillByWords) scan(text string, num int) (int, int) {
	scan, code := scanByWords(text)
	if code != impl.OK {
		return code, 0
	}
	number := slices.IndexFunc(w.items, func(item impl.Item) bool { return item.Code == scan.Article })
	if number < 0 {
		return impl.ErrName, 0
	}
	item := w.items[number]
	line := impl.Line{Item: number, Count: num, Amount: scan.Value, Deposit: item.Deposit * num}
	switch scan.Kind {
	case impl.ScUnit:
		line.Amount = item.Price * num
	case impl.ScGrams:
		whole, rest := item.Price*scan.Value/1000, item.Price*scan.Value%1000
		if rest > 500 || rest == 500 && whole%2 == 1 {
			whole++
		}
		line.Amount = whole
	}
	due := line.Amount + line.Deposit
	switch {
	case num < 1 || num > 99 || scan.Kind != impl.ScUnit && num != 1:
		return impl.ErrRange, 0
	case item.Age > w.shown[w.now]:
		return impl.ErrAge, 0
	case len(w.linesIn(w.now)) >= 50:
		return impl.ErrFull, 0
	case w.totalOf(w.now)+due > 1000000000:
		return impl.ErrOver, 0
	}
	w.log = append(w.log, scannedLine{Line: line, basket: w.now})
	return impl.OK, due
}

func (w *tillByWords) pay(num int) (int, int) {
	total := w.totalOf(w.now)
	switch {
	case len(w.linesIn(w.now)) == 0:
		return impl.ErrState, 0
	case num < total:
		return impl.ErrShort, 0
	case num > 1000000000:
		return impl.ErrRange, 0
	}
	w.sold = append(w.sold, w.now)
	w.nextBuyer()
	return impl.OK, num - total
}

func (w *tillByWords) do(act impl.TillAct) (int, int) {
	lines := w.linesIn(w.now)
	switch act.Kind {
	case impl.TaScan:
		return w.scan(act.Text, act.Num)
	case impl.TaVoid:
		if act.Num < 0 || act.Num >= len(lines) {
			return impl.ErrNone, 0
		}
		line := &w.log[lines[act.Num]]
		line.void = true
		return impl.OK, line.Amount + line.Deposit
	case impl.TaShown:
		if act.Num < 0 || act.Num > 120 {
			return impl.ErrRange, 0
		}
		w.shown[w.now] = act.Num
		return impl.OK, act.Num
	case impl.TaSuspend:
		if len(lines) == 0 {
			return impl.ErrState, 0
		}
		if len(w.kept) >= 5 {
			return impl.ErrFull, 0
		}
		w.kept = append(w.kept, w.now)
		w.nextBuyer()
		return impl.OK, len(w.kept)
	case impl.TaResume:
		if act.Num < 0 || act.Num >= len(w.kept) {
			return impl.ErrNone, 0
		}
		if len(lines) > 0 {
			return impl.ErrState, 0
		}
		w.now = w.kept[act.Num]
		w.kept = append(slices.Clone(w.kept[:act.Num]), w.kept[act.Num+1:]...)
		return impl.OK, w.totalOf(w.now)
	case impl.TaPay:
		return w.pay(act.Num)
	}
	return impl.ErrKind, 0
}

func tillRunByWords(items []impl.Item, acts []impl.TillAct) ([]impl.TillObs, impl.Till) {
	w := tillByWords{items: items, shown: map[int]int{}}
	var told []impl.TillObs
	for _, act := range acts {
		code, num := w.do(act)
		told = append(told, impl.TillObs{Code: code, Num: num})
	}
	return told, w.till()
}

// someItems are right, the end of each Code tells its place; few ages, and costs that are small or as great as can be.
func someItems(r *rand.Rand, count int) []impl.Item {
	var items []impl.Item
	for i := range count {
		code := []string{unitCode(i), closing("4006381" + someDigits(r, 3) + unitCode(i)[5:7]), unitCode(i)[2:7]}[r.IntN(3)]
		cost := func() int {
			return []int{0, r.IntN(5), r.IntN(2000), impl.MaxCost - r.IntN(2)*r.IntN(impl.MaxCost)}[r.IntN(4)]
		}
		items = append(items, impl.Item{Code: code, Price: cost(), Deposit: cost() * r.IntN(2), Class: 1 + r.IntN(impl.MaxClass), Age: []int{0, 0, 0, 16, 18}[r.IntN(5)]})
	}
	return items
}

func someScan(r *rand.Rand, items []impl.Item) impl.TillAct {
	if r.IntN(20) == 0 {
		return scanned([]string{"", "12345", "96385075", unitCode(77), closing("221234500678"), gramsCode("77777", 5)}[r.IntN(6)], r.IntN(3))
	}
	code := items[r.IntN(len(items))].Code
	if len(code) > 5 {
		return scanned(code, []int{1, 2, 1 + r.IntN(9), 99, r.IntN(101)}[r.IntN(5)])
	}
	value := r.IntN(100000) >> r.IntN(17)
	num := []int{1, 1, 1, 1, 1, 1, 1, 0, 2}[r.IntN(9)]
	return scanned([]string{gramsCode(code, value), pricedCode(code, value)}[r.IntN(2)], num)
}

// someTillActs draws kinds by their weights, from 0 on; most acts have no code.
func someTillActs(r *rand.Rand, items []impl.Item, count int, weights ...int) []impl.TillAct {
	var kinds []int
	for kind, weight := range weights {
		kinds = append(kinds, alike(kind, weight)...)
	}
	w := tillByWords{items: items, shown: map[int]int{}}
	var acts []impl.TillAct
	for len(acts) < count {
		act := impl.TillAct{Kind: kinds[r.IntN(len(kinds))]}
		switch act.Kind {
		case impl.TaScan:
			act = someScan(r, items)
		case impl.TaVoid:
			act.Num = r.IntN(len(w.linesIn(w.now))+2) - r.IntN(8)/7
		case impl.TaShown:
			act.Num = []int{0, 15, 16, 17, 18, 120, -1, 121}[r.IntN(8)]
		case impl.TaResume:
			act.Num = r.IntN(len(w.kept)+1) - r.IntN(8)/7
		case impl.TaPay:
			act.Num = w.totalOf(w.now) + []int{0, r.IntN(1000), -1, impl.MaxMoney - w.totalOf(w.now), impl.MaxMoney}[r.IntN(5)]
		}
		w.do(act)
		acts = append(acts, act)
	}
	return acts
}

func tillWeights() [][]int {
	return [][]int{{1, 30, 6, 6, 6, 6, 6}, {0, 60, 1, 3, 0, 0, 0}, {1, 20, 2, 10, 20, 8, 2}, {0, 20, 15, 10, 5, 5, 1}, {0, 10, 1, 3, 2, 2, 10}}
}

func TestP9LikeALogOfAllLines(t *testing.T) {
	r := fixed()
	codes := map[[2]int]int{}
	for round := range 1000 {
		items := someItems(r, 1+r.IntN(impl.MaxItems))
		weights := tillWeights()
		acts := someTillActs(r, items, r.IntN(impl.MaxActs+1), weights[round%len(weights)]...)
		told, got, code := impl.TillRun(items, acts)
		wantTold, want := tillRunByWords(items, acts)
		if code != impl.OK || !slices.Equal(told, wantTold) || !sameTill(got, want) {
			t.Fatalf("TillRun(%v, %v) = %v, %v, %d; want %v, %v", items, acts, told, got, code, wantTold, want)
		}
		for i, o := range told {
			codes[[2]int{acts[i].Kind, o.Code}]++
		}
	}
	wanted := map[int][]int{
		0:              {impl.ErrKind},
		impl.TaScan:    {impl.OK, impl.ErrSyntax, impl.ErrSum, impl.ErrKind, impl.ErrName, impl.ErrRange, impl.ErrAge, impl.ErrFull, impl.ErrOver},
		impl.TaVoid:    {impl.OK, impl.ErrNone},
		impl.TaShown:   {impl.OK, impl.ErrRange},
		impl.TaSuspend: {impl.OK, impl.ErrState, impl.ErrFull},
		impl.TaResume:  {impl.OK, impl.ErrNone, impl.ErrState},
		impl.TaPay:     {impl.OK, impl.ErrState, impl.ErrShort, impl.ErrRange},
	}
	for kind, list := range wanted {
		for _, code := range list {
			if codes[[2]int{kind, code}] < 10 {
				t.Errorf("too few acts drawn of kind %d have the code %d: %v", kind, code, codes)
			}
		}
	}
}

func TestP9WhatWasTakenIsWhatClassesAndDepositsHave(t *testing.T) {
	r := fixed()
	for round := range 60 {
		items, weights := someItems(r, 6), tillWeights()
		wantTillKept(t, "drawn", items, someTillActs(r, items, impl.MaxActs, weights[round%len(weights)]...))
	}
}

// Acts with a code may as well not be there at all.
func TestP9AnActWithACodeChangesNothing(t *testing.T) {
	r := fixed()
	for round := range 100 {
		items, weights := someItems(r, 6), tillWeights()
		acts := someTillActs(r, items, impl.MaxActs, weights[round%len(weights)]...)
		told, till, _ := impl.TillRun(items, acts)
		var without []impl.TillAct
		var want []impl.TillObs
		for i, o := range told {
			if o.Code == impl.OK {
				without, want = append(without, acts[i]), append(want, o)
			}
		}
		again, same, code := impl.TillRun(items, without)
		if code != impl.OK || !slices.Equal(again, want) || !sameTill(till, same) {
			t.Errorf("%v without the acts that had a code: %v, %v; with them: %v, %v", acts, again, same, want, till)
		}
	}
}

// What is put away and taken up again at once might as well have stayed, where there is room for it.
func TestP9ABasketComesBackAsItWas(t *testing.T) {
	r := fixed()
	for range 100 {
		items := someItems(r, 6)
		acts := someTillActs(r, items, 100, 0, 20, 2, 4, 3, 4, 2)
		at := r.IntN(len(acts))
		_, till, _ := impl.TillRun(items, acts[:at])
		if len(till.Now.Lines) == 0 || len(till.Kept) == impl.MaxKept {
			continue
		}
		detour := slices.Insert(slices.Clone(acts), at, suspended(), resumed(len(till.Kept)))
		want, wantBehind, _ := impl.TillRun(items, acts)
		got, behind, code := impl.TillRun(items, detour)
		between := []impl.TillObs{{Num: len(till.Kept) + 1}, {Num: dueOf(till.Now)}}
		if code != impl.OK || !slices.Equal(got, slices.Insert(slices.Clone(want), at, between...)) || !sameTill(behind, wantBehind) {
			t.Errorf("%v with a detour at %d: %v, %v; without: %v, %v", acts, at, got, behind, want, wantBehind)
		}
	}
}

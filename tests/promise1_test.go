package tests

import (
	"fmt"
	"math"
	"reflect"
	"slices"
	"strings"
	"sync"
	"testing"
	"unsafe"

	"loop.example/g00067/impl"
)

func oddNumbers() []int {
	return []int{math.MinInt, math.MinInt + 1, math.MinInt32, -most - 1, -most, -most + 1, -10001, -1, 0, 1, 2, 3, 4, 5, 60, 100, 999, 1000, 1001, 9999, 10000, 10001, 1000000, 1000001, most - 1, most, most + 1, math.MaxInt32, 1 << 32, math.MaxInt - 1, math.MaxInt}
}

func oddTexts() []string {
	return []string{"", "-", ".", "0.00", "-0.05", "12.34", "ok", "short", "\x00", "\xff", "\xc3", "käse", "10000000.01", "96385074", "4006381333931", "2012345006782", strings.Repeat("9", impl.MaxText), strings.Repeat("9", impl.MaxText+1), strings.Repeat("\xff", 2*impl.MaxText)}
}

func oddLists() [][]int {
	lists := [][]int{nil, {}, {0}, {1}, {1, 1, 1}, {3, 0, 5}, {math.MaxInt, math.MaxInt}, {math.MinInt}, alike(1, impl.MaxShares), alike(1, impl.MaxShares+1), alike(0, impl.MaxList), alike(math.MinInt, impl.MaxList+1)}
	for _, n := range oddNumbers() {
		lists = append(lists, []int{1, n})
	}
	return lists
}

func oddRates() []impl.Rate {
	var rates []impl.Rate
	for _, n := range []int{math.MinInt, -1, 0, 1, 2, 9999, 10000, 10001, math.MaxInt} {
		for _, d := range []int{math.MinInt, -1, 0, 1, 2, 9999, 10000, 10001, math.MaxInt} {
			rates = append(rates, impl.Rate{N: n, D: d})
		}
	}
	return rates
}

func oddScans() []impl.Scan {
	var scans []impl.Scan
	for _, kind := range []int{math.MinInt, -1, 0, 1, 2, 3, 4, math.MaxInt} {
		for _, article := range append(oddTexts(), "12345", "96385074", "2012345006782") {
			for _, value := range []int{math.MinInt, -1, 0, 1, 99999, 100000, math.MaxInt} {
				scans = append(scans, impl.Scan{Kind: kind, Article: article, Value: value})
			}
		}
	}
	return scans
}

func oddPacks() [][]impl.Pack {
	lists := [][]impl.Pack{nil, {}, {{Name: "six", Count: 6}, {Name: "tray", Of: "six", Count: 4}}}
	for _, c := range faultyPacks() {
		lists = append(lists, c.packs)
	}
	for _, text := range oddTexts() {
		for _, n := range oddNumbers() {
			lists = append(lists, []impl.Pack{{Name: text, Count: n}}, []impl.Pack{{Name: "a", Count: 1000}, {Name: "b", Of: text, Count: n}})
		}
	}
	return lists
}

func oddTaxRows() [][]impl.TaxRow {
	lists := append(append(rightTaxRows(), wrongTaxRows()...), manyTaxRows(impl.MaxList+1), bookRows())
	for _, n := range oddNumbers() {
		lists = append(lists, []impl.TaxRow{taxRow(n, "", 0, 10)}, []impl.TaxRow{taxRow(1, "n", n, 10)}, []impl.TaxRow{taxRow(1, "", 0, n)}, []impl.TaxRow{taxRow(1, "n", n, n)})
	}
	for _, text := range oddTexts() {
		lists = append(lists, []impl.TaxRow{taxRow(1, text, 0, 10)})
	}
	return lists
}

func oddTaxLines() [][]impl.TaxLine {
	lists := [][]impl.TaxLine{nil, {}, {{Class: 2, Gross: 53}, {Class: 1, Gross: 100}, {Class: 2, Gross: 54}}, make([]impl.TaxLine, impl.MaxList), make([]impl.TaxLine, impl.MaxList+1), slices.Repeat([]impl.TaxLine{{Class: 1, Gross: most}}, impl.MaxList)}
	for _, n := range oddNumbers() {
		lists = append(lists, []impl.TaxLine{{Class: n, Gross: 1}}, []impl.TaxLine{{Class: 1, Gross: n}, {Class: 1, Gross: n}, {Class: 1, Gross: n}})
	}
	return lists
}

func oddPriceRows() [][]impl.PriceRow {
	lists := append(append(rightPriceRows(), wrongPriceRows()...), manyPriceRows(impl.MaxList+1), labelRows())
	for _, n := range oddNumbers() {
		lists = append(lists, []impl.PriceRow{priceRow("milk", "", n, 0, 10, 5)}, []impl.PriceRow{priceRow("milk", "", 1, n, 10, 5)}, []impl.PriceRow{priceRow("milk", "", 1, 0, n, 5)}, []impl.PriceRow{priceRow("milk", "", 1, n, n, n)}, []impl.PriceRow{priceRow("milk", "", 1, 0, 10, n)})
	}
	for _, text := range oddTexts() {
		lists = append(lists, []impl.PriceRow{priceRow(text, "", 1, 0, 10, 5)}, []impl.PriceRow{priceRow("milk", text, 1, 0, 10, 5)})
	}
	return lists
}

func oddUnits() [][]impl.Unit {
	lists := append(append(rightUnits(), wrongUnits()...), make([]impl.Unit, impl.MaxList+1), mixedBasket())
	for _, n := range oddNumbers() {
		lists = append(lists, unitsOf("milk", n), unitsOf("milk", 100, n, n))
	}
	for _, text := range oddTexts() {
		lists = append(lists, unitsOf(text, 100))
	}
	return lists
}

func oddDeals() [][]impl.Deal {
	lists := append(append(rightDeals(), wrongDeals()...), manyDeals(impl.MaxList+1), mixedDeals())
	for _, n := range oddNumbers() {
		lists = append(lists, []impl.Deal{dealOf("a", n, 1, 10, "milk")}, []impl.Deal{dealOf("a", n, n, n, "milk")})
		for kind := impl.DlPercent; kind <= impl.DlOff; kind++ {
			lists = append(lists, []impl.Deal{dealOf("a", kind, n, 0, "milk")}, []impl.Deal{dealOf("a", kind, 2, n, "milk")}, []impl.Deal{dealOf("a", kind, 1, n, "milk")})
		}
	}
	for _, text := range oddTexts() {
		lists = append(lists, []impl.Deal{dealOf(text, impl.DlOff, 1, 1, "milk")}, []impl.Deal{dealOf("a", impl.DlOff, 1, 1, "milk", text)})
	}
	return lists
}

func oddUses() [][]impl.Use {
	lists := [][]impl.Use{nil, {}, {useOf(2, 1)}, {useOf(0, 0, 2, 3), useOf(2, 1), useOf(3, 5, 6)}, make([]impl.Use, impl.MaxList+1)}
	for _, uses := range usesThatDoNotFit() {
		lists = append(lists, uses)
	}
	for _, n := range oddNumbers() {
		lists = append(lists, []impl.Use{useOf(n, 0)}, []impl.Use{useOf(0, n)}, []impl.Use{useOf(0, 0, n, n)}, []impl.Use{saving(useOf(2, 1), n)})
	}
	return lists
}

func oddRules() [][]impl.Clause {
	lists := append(append(rightRules(), wrongRules()...), manyRules(impl.MaxList+1), mixedRules())
	for _, n := range oddNumbers() {
		lists = append(lists, []impl.Clause{ruleOf("a", n, 0)}, []impl.Clause{ruleOf("a", impl.AcOff, n)}, []impl.Clause{deny("a", term(n, impl.OpIs, 1))}, []impl.Clause{deny("a", term(impl.FdAge, n, 1))}, []impl.Clause{deny("a", term(impl.FdAge, impl.OpMost, n), term(impl.FdAge, impl.OpLeast, n))}, []impl.Clause{ruleOf("a", n, n, term(n, n, n))})
	}
	for _, text := range oddTexts() {
		lists = append(lists, []impl.Clause{deny(text)})
	}
	return lists
}

func oddFacts() []impl.Facts {
	facts := []impl.Facts{{}, someFacts(), {Qty: 1, Day: 1}, {Qty: 999, Amount: 1000000, Hour: 23, Day: 7, Age: 120}}
	for _, n := range oddNumbers() {
		facts = append(facts, impl.Facts{Qty: n, Amount: n, Hour: n, Day: n, Age: n}, impl.Facts{Qty: 1, Amount: n, Day: 1})
	}
	return facts
}

func oddRuleTexts() []string {
	texts := append(append(oddTexts(), linesThatAreNone()...), "rule a then deny", mixedRulesText(), strings.Repeat("\n", impl.MaxText), strings.Repeat("rule a then deny\n", 3000), ruleLines(impl.MaxClauses+1), lineOf("a", 5000))
	for _, fault := range faultLines() {
		texts = append(texts, "rule a then deny\n"+fault.line)
	}
	return texts
}

// mixedRules are right; the third never fires, and the last is covered.
func mixedRules() []impl.Clause {
	return []impl.Clause{
		deny("kids", term(impl.FdAge, impl.OpMost, 17), term(impl.FdHour, impl.OpLeast, 22)),
		ruleOf("many", impl.AcPercent, 15, term(impl.FdQty, impl.OpLeast, 10)),
		ruleOf("never", impl.AcOff, 5, term(impl.FdDay, impl.OpIs, 3), term(impl.FdQty, impl.OpMost, 2), term(impl.FdDay, impl.OpIs, 4), term(impl.FdAge, impl.OpLeast, 5)),
		ruleOf("all", impl.AcOff, 0),
		deny("covered", term(impl.FdQty, impl.OpLeast, 11)),
	}
}

func mixedRulesText() string {
	return "rule kids when age <= 17 and hour >= 22 then deny\nrule many when qty >= 10 then percent 15\nrule never when day = 3 and qty <= 2 and day = 4 and age >= 5 then off 5\nrule all then off 0\nrule covered when qty >= 11 then deny\n"
}

// mixedActs have each kind of act and of code; the spend of act 3 comes back, some of it behind its time.
func mixedActs() []impl.PointAct {
	return append([]impl.PointAct{earn(50, 20), earn(30, 10), {Kind: 9}, spend(40), spend(50), dayOn(11), back(3), back(3), dayOn(3), spend(15)}, manyEarns(impl.MaxLots)...)
}

func oddActs() [][]impl.PointAct {
	lists := [][]impl.PointAct{nil, {}, make([]impl.PointAct, 1), mixedActs(), manyEarns(impl.MaxLots + 1), manyEarns(impl.MaxActs + 1), make([]impl.PointAct, impl.MaxList), make([]impl.PointAct, impl.MaxList+1), fullBehindASpend(impl.MaxLots)}
	for _, n := range append(oddNumbers(), impl.MaxDay, impl.MaxDay+1) {
		for _, act := range []impl.PointAct{{Kind: n, Num: 1, Until: 1}, earn(n, 5), earn(5, n), earn(n, n), spend(n), dayOn(n), back(n), {Kind: n, Num: n, Until: n}} {
			lists = append(lists, []impl.PointAct{earn(5, 5), spend(2), act, spend(1), back(1), act})
		}
	}
	return lists
}

// mixedTillActs have each kind of act; behind them there are a basket, two that are kept, and sales.
func mixedTillActs() []impl.TillAct {
	return []impl.TillAct{
		ageShown(18), units(wine, 1), units(milk, 2), suspended(), grams(ham, 500), units(match, 3), priced(ham, 70), voided(1), suspended(), {Kind: 9}, units(wine, 1), paid(5),
		units(milk, 1), paid(300), resumed(0), units(match, 1), suspended(), units(gold, 1), resumed(1), paid(impl.MaxMoney), resumed(1), voided(0), units(milk, 3), units(crate, 1), suspended(), ageShown(16), grams(snuff, 9), units(gift, 1),
	}
}

func oddTillActs() [][]impl.TillAct {
	lists := [][]impl.TillAct{nil, {}, make([]impl.TillAct, 1), mixedTillActs(), nearlyAll(), make([]impl.TillAct, impl.MaxActs), make([]impl.TillAct, impl.MaxActs+1), make([]impl.TillAct, impl.MaxList), make([]impl.TillAct, impl.MaxList+1)}
	for _, n := range append(oddNumbers(), 99, 120, 121, 275) {
		for _, act := range []impl.TillAct{{Kind: n, Text: "4006381333931", Num: 1}, units(milk, n), scanned(gramsCode("12345", 50), n), scanned(pricedCode("12345", 50), n), voided(n), ageShown(n), {Kind: impl.TaSuspend, Num: n}, resumed(n), paid(n), {Kind: n, Num: n}} {
			lists = append(lists, []impl.TillAct{act, units(milk, 1), act, suspended(), act, units(gold, 1), units(milk, 1), act, act})
		}
	}
	for _, text := range oddTexts() {
		lists = append(lists, []impl.TillAct{scanned(text, 1), units(milk, 1), scanned(text, 1), {Kind: impl.TaVoid, Text: text}})
	}
	return lists
}

func oddItems() [][]impl.Item {
	lists := append(rightItems(), wrongItems()...)
	for _, n := range oddNumbers() {
		for _, item := range []impl.Item{{Price: n, Class: 1}, {Deposit: n, Class: 1}, {Class: n}, {Class: 1, Age: n}, {Price: n, Deposit: n, Class: n, Age: n}} {
			item.Code = "4006381333931"
			lists = append(lists, []impl.Item{item})
		}
	}
	for _, text := range oddTexts() {
		lists = append(lists, []impl.Item{itemOf(text)}, []impl.Item{itemOf("12345"), itemOf(text)})
	}
	return lists
}

func oddHeld() [][]impl.Coins {
	lists := append(append(rightHeld(), wrongHeld()...), coinsOf([2]int{1, 1}, [2]int{7, 3}, [2]int{9, 2}, [2]int{30, 1}))
	for _, n := range append(oddNumbers(), impl.MaxHeld+1, impl.MaxCoin, impl.MaxCoin+1) {
		lists = append(lists, coinsOf([2]int{n, 1}), coinsOf([2]int{1, n}), coinsOf([2]int{1, 2}, [2]int{n, n}))
	}
	return lists
}

func oddTenders() [][]impl.Tender {
	lists := [][]impl.Tender{nil, {}, tendersOf(cash(300), voucher(200), foreign(333, 1, 2), card(400)), make([]impl.Tender, impl.MaxTenders), make([]impl.Tender, impl.MaxTenders+1), make([]impl.Tender, impl.MaxList), make([]impl.Tender, impl.MaxList+1), slices.Repeat(tendersOf(foreign(most, 10000, 1)), impl.MaxTenders)}
	for _, n := range oddNumbers() {
		lists = append(lists, tendersOf(voucher(n)), tendersOf(card(n)), tendersOf(cash(n)), tendersOf(foreign(n, 10000, 1)), tendersOf(impl.Tender{Kind: n, Amount: 5}), tendersOf(impl.Tender{Kind: n, Amount: n, Rate: rate(n, n)}))
	}
	for _, r := range oddRates() {
		for kind := impl.TdVoucher; kind <= impl.TdForeign; kind++ {
			lists = append(lists, tendersOf(cash(1), impl.Tender{Kind: kind, Amount: 5, Rate: r}))
		}
	}
	return lists
}

func oddEntries() [][]impl.Entry {
	right := chainByWords(dayEvents())
	lists := [][]impl.Entry{nil, {}, make([]impl.Entry, 1), dayEvents(), right, right[1:], chainByWords(longEvents(impl.MaxEntries)), chainByWords(longEvents(impl.MaxEntries + 1)), make([]impl.Entry, impl.MaxList), make([]impl.Entry, impl.MaxList+1)}
	for _, e := range slices.Concat(rightEvents(), wrongEvents()) {
		lists = append(lists, chainByWords(entriesOf(event(1, 5, "cash"), e)))
	}
	for _, n := range oddNumbers() {
		for _, e := range entriesOf(impl.Entry{Seq: n, Kind: 1}, impl.Entry{Seq: 2, Kind: n}, impl.Entry{Seq: 2, Kind: 1, Amount: n}, impl.Entry{Seq: 2, Kind: 1, Sum: n}, impl.Entry{Seq: n, Kind: n, Amount: n, Sum: n}) {
			lists = append(lists, entriesOf(right[0], e, e))
		}
	}
	for _, text := range oddTexts() {
		lists = append(lists, chainByWords(entriesOf(event(1, 5, text), event(1, 5, text))))
	}
	return lists
}

func oddJournalTexts() []string {
	text := textByWords(chainByWords(dayEvents()))
	texts := append(oddTexts(), text, text[:len(text)-1], text[1:], text+"x", text+"\n", "\n"+text, strings.Repeat("\n", impl.MaxText), strings.Repeat("1 1 1 1 \n", 5000), textByWords(chainByWords(longEvents(impl.MaxEntries))), textByWords(chainByWords(longEvents(impl.MaxEntries+1))), strings.Repeat(text, 500))
	for _, number := range textsThatAreNoNumbers() {
		texts = append(texts, entryLine(number, "1", "1", "500", "cash"), entryLine("1", number, "1", "500", "cash"), entryLine("1", "1", number, number, number))
	}
	for _, list := range oddEntries() {
		if len(list) <= impl.MaxEntries {
			texts = append(texts, textByWords(list))
		}
	}
	return texts
}

// mixedPayActs have each kind of act and of code; behind them there are payments that are open, captured and reversed.
func mixedPayActs() []impl.PayAct {
	full, _ := manyPayments(impl.MaxPayments)
	return append(payActs(
		authorised("käse", 100), authorised("b", 50), impl.PayAct{Kind: 9}, captured("käse", 60), captured("käse", 41), captured("none", 1), refunded("käse", 10), refunded("käse", 51), authorised("b", 5), authorised("9", 5), authorised("c", 0), captured("b", 0), captured("b", 50), captured("b", 1), reversed("b"), reversed("none"), authorised("d", 7), reversed("d"), refunded("none", 1), refunded("b", 0), refunded("b", 50),
	), full...)
}

func oddPayActs() [][]impl.PayAct {
	lists := [][]impl.PayAct{nil, {}, make([]impl.PayAct, 1), mixedPayActs(), make([]impl.PayAct, impl.MaxActs), make([]impl.PayAct, impl.MaxActs+1), make([]impl.PayAct, impl.MaxList), make([]impl.PayAct, impl.MaxList+1)}
	for _, n := range oddNumbers() {
		for _, act := range payActs(impl.PayAct{Kind: n, Id: "a", Amount: 1}, impl.PayAct{Kind: n, Id: "a", Amount: n}, authorised("b", n), captured("a", n), impl.PayAct{Kind: impl.PyReverse, Id: "a", Amount: n}, refunded("a", n)) {
			lists = append(lists, payActs(act, authorised("a", 100), act, captured("a", 60), act, refunded("a", 5), act, act, reversed("a"), act))
		}
	}
	for _, text := range oddTexts() {
		lists = append(lists, payActs(authorised(text, 5), captured(text, 1), refunded(text, 1), reversed(text), authorised(text, 5)))
	}
	return lists
}

// mixedSettled are right, and have pairs, entries that are alike, and others on both sides.
func mixedSettled() (mine, bank []impl.Settled) {
	return settledOf(settled("a", 5), settled("käse", -7), settled("a", 5), settled("b", 9), settled("a", 5), settled("c", most)),
		settledOf(settled("b", 8), settled("a", 5), settled("käse", -7), settled("a", 5), settled("d", 0))
}

func oddSettled() [][]impl.Settled {
	mine, bank := mixedSettled()
	lists := [][]impl.Settled{nil, {}, mine, bank, manySettled(impl.MaxPayments), manySettled(impl.MaxPayments + 1), make([]impl.Settled, impl.MaxList), make([]impl.Settled, impl.MaxList+1)}
	for _, wrong := range wrongSettled() {
		lists = append(lists, settledOf(wrong), settledOf(settled("a", 5), wrong))
	}
	for _, n := range oddNumbers() {
		lists = append(lists, settledOf(settled("a", n), settled("a", n)))
	}
	for _, text := range oddTexts() {
		lists = append(lists, settledOf(settled(text, 5)))
	}
	return lists
}

func oddLogs() [][]impl.Event {
	lists := slices.Concat(rightLogs(), wrongLogs(), [][]impl.Event{make([]impl.Event, impl.MaxList+1), slices.Repeat(mixedLog(), 500)})
	for _, n := range oddNumbers() {
		for _, e := range logOf(loadAt(n, 2, 5, "c", 5), loadAt(1, n, 5, "c", 5), loadAt(1, 2, n, "c", 5), loadAt(1, 2, 5, "c", n), impl.Event{Shop: 1, Seq: 2, Time: 5, Kind: n, Card: "c", Amount: n}, loadAt(n, n, n, "c", n)) {
			lists = append(lists, logOf(e), logOf(loadAt(1, 1, 1, "c", 1), e))
		}
	}
	for _, text := range oddTexts() {
		lists = append(lists, logOf(loadAt(1, 1, 1, text, 1), couponAt(2, 1, 1, text)))
	}
	return lists
}

func oddFacings() [][]impl.Facing {
	lists := append(rightFacings(), wrongFacings()...)
	for _, n := range append(oddNumbers(), impl.MaxFacings, impl.MaxWidth, impl.MaxWidth+1, impl.MaxGain, impl.MaxGain+1) {
		for _, f := range facingsOf(facing("a", n, 0, 9), facing("a", 3, n, alike(9, impl.MaxFacings)...), facing("a", 3, 0, n, 9), facing("a", 3, 1, 9, n), facing("a", n, n, n, n)) {
			lists = append(lists, facingsOf(f), append(teaShelf(), f))
		}
	}
	for _, text := range oddTexts() {
		lists = append(lists, facingsOf(facing(text, 3, 1, 9)), append(teaShelf(), facing(text, 3, 1, 9)))
	}
	return lists
}

// mixedStockActs have each kind of act and of code; behind them there are MaxStock lots, some of them held, late, or sold in part.
func mixedStockActs() []impl.StockAct {
	full, _ := manyReceipts(impl.MaxStock)
	return append(stockActs(
		receipt("käse", 1, 10, 9), receipt("käse", 2, 10, 5), impl.StockAct{Kind: 9}, sale("käse", 12), receipt("käse", 3, 4, 6), receipt("käse", 3, 1, 6), receipt("9", 1, 1, 6), receipt("ham", 0, 1, 6), lotHeld("käse", 1), lotHeld("käse", 1), lotFreed("käse", 3), sale("käse", 5), stockDay(7), stockDay(6), sale("käse", 9), sale("käse", 13), sale("käse", 0), receipt("ham", 1, 8, 7), lotCounted("ham", 1, 9), lotCounted("ham", 1, 6), lotWasted("ham", 2), lotFreed("käse", 1), sale("käse", 2), lotHeld("käse", 1), receipt("rum", 1, 3, 70), lotWasted("rum", 1),
	), full...)
}

func oddStockActs() [][]impl.StockAct {
	full, _ := manyReceipts(impl.MaxStock + 1)
	lists := [][]impl.StockAct{nil, {}, make([]impl.StockAct, 1), mixedStockActs(), mixedLots(), full, make([]impl.StockAct, impl.MaxActs), make([]impl.StockAct, impl.MaxActs+1), make([]impl.StockAct, impl.MaxList), make([]impl.StockAct, impl.MaxList+1)}
	for _, n := range append(oddNumbers(), 6, 7, 8, impl.MaxMany, impl.MaxMany+1) {
		for _, act := range stockActs(impl.StockAct{Kind: n, Article: "milk", Lot: 1, Num: 1, Until: 9}, impl.StockAct{Kind: n, Article: "milk", Lot: n, Num: n, Until: n}, receipt("milk", n, 1, 9), receipt("milk", 9, n, 9), receipt("milk", 9, 1, n), sale("milk", n), stockDay(n), lotHeld("milk", n), lotFreed("milk", n), lotWasted("milk", n), lotCounted("milk", n, 1), lotCounted("milk", 4, n)) {
			lists = append(lists, slices.Concat(stockActs(act), mixedLots(), stockActs(act, sale("milk", 2), act, lotFreed("milk", 2), act, act)))
		}
	}
	for _, text := range oddTexts() {
		lists = append(lists, stockActs(receipt(text, 1, 5, 9), sale(text, 1), lotHeld(text, 1), sale(text, 1), lotFreed(text, 1), lotCounted(text, 1, 2), lotWasted(text, 1), impl.StockAct{Kind: impl.SkDay, Article: text, Num: 3}))
	}
	return lists
}

// oddMarks: each number of oddNumbers stands at each place where one can be handed in.
func oddMarks() []markdown {
	list := slices.Concat(rightMarks(), wrongMarks(), longMarks(), []markdown{{}, {percents: []int{}, demand: [][]int{}}, {percents: []int{0}, demand: [][]int{{}}}})
	for _, n := range append(oddNumbers(), impl.MaxLeft, impl.MaxLeft+1, 101) {
		for _, change := range []func(m *markdown){
			func(m *markdown) { m.price = n },
			func(m *markdown) { m.stock = n },
			func(m *markdown) { m.percents[2] = n },
			func(m *markdown) { m.percents = []int{n, n, n} },
			func(m *markdown) { m.demand[1][1] = n },
			func(m *markdown) { m.demand = sameDays(4, n, n, n) },
			func(m *markdown) { *m = markdown{n, n, []int{n}, sameDays(1, n)} },
		} {
			list = append(list, cakes().with(change))
		}
	}
	return list
}

// forecast is all that a call of chapter 17 can be asked: sales or a table, a season's length or days, and parts.
type forecast struct {
	list        []int
	n, num, den int
}

// weekSales are right, with a season of 7 places, a last one that is not whole, and noughts.
func weekSales() forecast {
	return forecast{list: []int{4, 7, 0, 9, 20, 31, 0, 6, 6, 0, 8, 24, 29, 0, 5, 9}, n: 7, num: 2, den: 5}
}

// oddForecasts: each number of oddNumbers stands at each place where one can be handed in.
func oddForecasts() []forecast {
	var list []forecast
	for _, numbers := range slices.Concat(oddLists(), rightTables(), wrongTables(), longTables(), [][]int{weekSales().list, alike(impl.MaxMany, impl.MaxList)}) {
		list = append(list, forecast{numbers, 1, 1, 2}, forecast{numbers, 2, 2, 2}, forecast{numbers, 5, 0, 1}, forecast{numbers, 0, 0, 0})
	}
	for _, n := range append(oddNumbers(), impl.MaxMany, impl.MaxMany+1, impl.MaxPhase+1, impl.MaxOdds, impl.MaxOdds+1, impl.MaxAhead+1) {
		for _, table := range [][]int{{1, 2, 1}, {n}, {1, n, 1}, weekSales().list} {
			list = append(list, forecast{table, n, 1, 2}, forecast{table, 2, n, 1000}, forecast{table, 2, 1, n}, forecast{table, 2, n, n}, forecast{table, n, n, n})
		}
	}
	return list
}

func oddNeeds() []impl.Need {
	list := []impl.Need{{}, milkNeed(), needOf(50, 20, 5, 6, 10, 40), needOf(50, 20, 5, 6, 13, 40), needOf(25, 20, 5, 6, 10, 0), needOf(1, 0, 0, 1, 0, 1)}
	for _, n := range append(oddNumbers(), impl.MaxMany-1, impl.MaxMany, impl.MaxMany+1) {
		for place := range needNumbers(&impl.Need{}) {
			need, many := milkNeed(), needOf(n, n, n, n, n, n)
			*needNumbers(&need)[place] = n
			*needNumbers(&many)[place] = 5
			list = append(list, need, many)
		}
		list = append(list, needOf(n, n, n, n, n, n))
	}
	return list
}

func oddLoads() [][]impl.Load {
	lists := [][]impl.Load{nil, {}, teaLoads(), loadsAlike(0, 5, 3), loadsAlike(1, 2, impl.MaxLoads), loadsAlike(1, 2, impl.MaxLoads+1), loadsAlike(impl.MaxPallets, impl.MaxPallets, impl.MaxLoads), loadsAlike(1, 1, impl.MaxList), loadsAlike(1, 1, impl.MaxList+1), loadsAlike(math.MinInt, math.MaxInt, impl.MaxList+1)}
	for _, n := range append(oddNumbers(), impl.MaxLoads) {
		lists = append(lists, loadsOf([2]int{n, 1}), loadsOf([2]int{1, n}), loadsOf([2]int{n, n}), append(teaLoads(), impl.Load{Pallets: n}, impl.Load{Pallets: 1, Extra: n}), loadsAlike(n, n, impl.MaxLoads))
	}
	return lists
}

func oddWeeks() [][]bool { return slices.Concat(rightWeeks(), wrongWeeks(), longWeeks()) }

func oddHolidays() [][]int {
	lists := slices.Concat(rightHolidays(), wrongHolidays(), longHolidays(), oddLists())
	for _, n := range append(oddNumbers(), impl.MaxDay-1, impl.MaxDay, impl.MaxDay+1) {
		lists = append(lists, []int{n}, []int{3, n}, []int{n, 50000}, []int{n, n})
	}
	return lists
}

// oddStretches are pairs of days, those that are right among them.
func oddStretches() [][2]int {
	list := append(stretchesOutOfRange(), [2]int{0, 0}, [2]int{0, 30}, [2]int{3, 403}, [2]int{impl.MaxDay - 400, impl.MaxDay})
	for _, n := range append(oddNumbers(), impl.MaxDay-1, impl.MaxDay, impl.MaxDay+1) {
		list = append(list, [2]int{n, 30}, [2]int{0, n}, [2]int{n, n}, [2]int{n, impl.MaxDay})
	}
	return list
}

func oddSegments() [][]impl.Segment {
	lists := slices.Concat(rightSegmentLists(), wrongSegmentLists(), overSegmentLists(), longSegmentLists())
	for _, text := range oddTexts() {
		lists = append(lists, segmentsOf(segment(text, "a")), segmentsOf(segment("ABC", text)), segmentsOf(segment("ABC", "a", text, ""), segment(text, text)))
	}
	return lists
}

func oddSegmentTexts() []string {
	texts := append(oddTexts(), supplierText(), strings.Repeat("ABC'", impl.MaxText/4), strings.Repeat("ABC'", impl.MaxText/4)+"A", "ABC+"+strings.Repeat("?+", impl.MaxText/2-4), "ABC"+strings.Repeat("+", impl.MaxText-3), strings.Repeat("?", impl.MaxText))
	for _, list := range slices.Concat(rightSegmentLists(), overSegmentLists()) {
		texts = append(texts, wholeTextByWords(list))
	}
	for _, s := range wrongSegments() {
		texts = append(texts, wholeTextByWords(segmentsOf(s)))
	}
	for _, fault := range segmentTextsWithFaults() {
		texts = append(texts, fault.text)
	}
	return texts
}

func oddDocs() [][]impl.DocLine {
	lists := slices.Concat(rightDocs(), wrongDocs(), longDocs())
	for _, n := range append(oddNumbers(), impl.MaxMany-1, impl.MaxMany, impl.MaxMany+1) {
		lists = append(lists, docsOf(docLine("tea", n, 1)), docsOf(docLine("tea", 1, n)), docsOf(docLine("tea", n, n)))
	}
	for _, text := range oddTexts() {
		lists = append(lists, docsOf(docLine(text, 1, 1)), docsOf(docLine("tea", 1, 1), docLine(text, 1, 1)))
	}
	return lists
}

func oddRungs() [][]impl.Rung {
	lists := slices.Concat(rightRungs(), wrongRungs(), longRungs())
	for _, n := range oddNumbers() {
		lists = append(lists, rungsOf(rung(n, 1, 2)), rungsOf(rung(0, n, 10000)), rungsOf(rung(0, 1, n)), rungsOf(rung(0, n, n)), rungsOf(rung(50, 1, 3), rung(n, n, n)))
	}
	for _, r := range oddRates() {
		lists = append(lists, rungsOf(impl.Rung{From: 5, Rate: r}))
	}
	return lists
}

// labelRows are right, and have a step at each of the minutes 1, 2, 4, 5 and 9 in north.
func labelRows() []impl.PriceRow {
	return []impl.PriceRow{priceRow("milk", "", 1, 1, 9, 120), priceRow("milk", "north", 1, 2, 5, 130), priceRow("milk", "", 2, 4, 5, 99)}
}

// mustBeZero: a code other than 0 means that all else is zero.
func mustBeZero(t *testing.T, what string, code int, zero bool) {
	t.Helper()
	if impl.CodeWord(code) == "" {
		t.Errorf("%s: %d is no code", what, code)
	}
	if code != impl.OK && !zero {
		t.Errorf("%s: code %d with an answer", what, code)
	}
}

func TestP1NumbersOfAnySizeAreAnswered(t *testing.T) {
	for _, amount := range oddNumbers() {
		impl.CodeWord(amount)
		text, code := impl.MoneyText(amount)
		mustBeZero(t, "MoneyText", code, text == "")
		for _, step := range oddNumbers() {
			n, code := impl.Cash(amount, step)
			mustBeZero(t, "Cash", code, n == 0)
		}
		for _, list := range oddLists() {
			parts, code := impl.Share(amount, list)
			mustBeZero(t, "Share", code, len(parts) == 0)
		}
	}
}

func TestP1RatesOfAnySizeAreAnswered(t *testing.T) {
	someModes := []int{math.MinInt, -1, 0, 1, 2, 3, 4, 5, math.MaxInt}
	for _, amount := range []int{math.MinInt, -most - 1, -most, -1, 0, 1, 7, most, most + 1, math.MaxInt} {
		for _, from := range oddRates() {
			for _, mode := range someModes {
				n, code := impl.Part(amount, from, mode)
				mustBeZero(t, "Part", code, n == 0)
				for _, to := range oddRates() {
					n, code := impl.Exchange(amount, from, to, mode)
					mustBeZero(t, "Exchange", code, n == 0)
				}
			}
		}
	}
}

func TestP1TextsOfAnyBytesAreAnswered(t *testing.T) {
	for _, text := range oddTexts() {
		impl.NameOK(text)
		impl.CodeOf(text)
		n, code := impl.ReadMoney(text)
		mustBeZero(t, "ReadMoney", code, n == 0)
		digit, code := impl.CheckDigit(text)
		mustBeZero(t, "CheckDigit", code, digit == 0)
		scan, code := impl.ReadScan(text)
		mustBeZero(t, "ReadScan", code, scan == impl.Scan{})
	}
}

func TestP1ScansAndPacksOfAnyKindAreAnswered(t *testing.T) {
	for _, scan := range oddScans() {
		text, code := impl.MakeScan(scan)
		mustBeZero(t, "MakeScan", code, text == "")
	}
	for _, packs := range oddPacks() {
		sizes, code, who := impl.PackUnits(packs)
		mustBeZero(t, "PackUnits", code, len(sizes) == 0)
		if code == impl.OK && who != "" {
			t.Errorf("PackUnits(%v) tells %q without a fault", packs, who)
		}
		for _, units := range oddNumbers() {
			counts, left, code := impl.Unpack(packs, units)
			mustBeZero(t, "Unpack", code, len(counts) == 0 && left == 0)
		}
	}
}

func TestP1TaxesOfAnyKindAreAnswered(t *testing.T) {
	for _, rows := range oddTaxRows() {
		impl.TaxRowsOK(rows)
		for _, n := range oddNumbers() {
			r, code := impl.TaxAt(rows, n, "north", 1)
			mustBeZero(t, "TaxAt", code, r == impl.Rate{})
			r, code = impl.TaxAt(rows, 1, "", n)
			mustBeZero(t, "TaxAt", code, r == impl.Rate{})
		}
		for _, text := range oddTexts() {
			r, code := impl.TaxAt(rows, 1, text, 1)
			mustBeZero(t, "TaxAt", code, r == impl.Rate{})
			book, code := impl.TaxBook(rows, text, 1, []impl.TaxLine{{Class: 1, Gross: 1}})
			mustBeZero(t, "TaxBook", code, len(book) == 0)
		}
		for _, lines := range oddTaxLines() {
			book, code := impl.TaxBook(rows, "n", 1, lines)
			mustBeZero(t, "TaxBook", code, len(book) == 0)
		}
	}
	for _, n := range oddNumbers() {
		for _, r := range oddRates() {
			taxed, code := impl.Split(n, r)
			mustBeZero(t, "Split", code, taxed == impl.Taxed{})
		}
		book, code := impl.TaxBook(bookRows(), "north", n, []impl.TaxLine{{Class: 1, Gross: 119}})
		mustBeZero(t, "TaxBook", code, len(book) == 0)
	}
}

func TestP1PricesOfAnyKindAreAnswered(t *testing.T) {
	for _, rows := range oddPriceRows() {
		impl.PricesOK(rows)
		for _, n := range oddNumbers() {
			amount, row, code := impl.PriceAt(rows, "milk", "north", n)
			mustBeZero(t, "PriceAt", code, amount == 0 && row == 0)
			for _, to := range []int{math.MinInt, n, 10, impl.MaxMinute, impl.MaxMinute + 1, math.MaxInt} {
				steps, code := impl.PriceSteps(rows, "milk", "", n, to)
				mustBeZero(t, "PriceSteps", code, len(steps) == 0)
			}
		}
		for _, text := range oddTexts() {
			amount, row, code := impl.PriceAt(rows, text, "north", 1)
			mustBeZero(t, "PriceAt", code, amount == 0 && row == 0)
			amount, row, code = impl.PriceAt(rows, "milk", text, 1)
			mustBeZero(t, "PriceAt", code, amount == 0 && row == 0)
			steps, code := impl.PriceSteps(rows, text, text, 0, 10)
			mustBeZero(t, "PriceSteps", code, len(steps) == 0)
		}
	}
	for _, amount := range oddNumbers() {
		for _, grams := range append(oddNumbers(), impl.MaxGrams, impl.MaxGrams+1) {
			n, code := impl.ByWeight(amount, grams)
			mustBeZero(t, "ByWeight", code, n == 0)
		}
	}
}

func noBargain(told impl.Bargain) bool {
	return told.Total == 0 && told.Saved == 0 && len(told.Uses) == 0
}

func TestP1DealsOfAnyKindAreAnswered(t *testing.T) {
	for _, deals := range oddDeals() {
		impl.DealsOK(deals)
		for _, units := range [][]impl.Unit{nil, unitsOf("milk", 100), unitsOf("milk", alike(dearest, impl.MaxBasket)...), mixedBasket()} {
			told, code := impl.Best(units, deals)
			mustBeZero(t, "Best", code, noBargain(told))
			for _, uses := range [][]impl.Use{nil, {useOf(0, 0)}, {useOf(0, 0), useOf(1, 1)}, {useOf(0, 0, 1)}} {
				told, code = impl.Priced(units, deals, uses)
				mustBeZero(t, "Priced", code, noBargain(told))
			}
		}
	}
	for _, units := range oddUnits() {
		for _, deals := range [][]impl.Deal{nil, manyDeals(impl.MaxDeals), mixedDeals()} {
			told, code := impl.Best(units, deals)
			mustBeZero(t, "Best", code, noBargain(told))
			for _, uses := range oddUses() {
				told, code = impl.Priced(units, deals, uses)
				mustBeZero(t, "Priced", code, noBargain(told))
			}
		}
	}
}

func TestP1RulesOfAnyKindAreAnswered(t *testing.T) {
	for _, rules := range oddRules() {
		impl.ClausesOK(rules)
		text, code := impl.RulesText(rules)
		mustBeZero(t, "RulesText", code, text == "")
		hidden, code := impl.Hidden(rules)
		mustBeZero(t, "Hidden", code, len(hidden) == 0)
		for _, f := range oddFacts() {
			number, code := impl.Decide(rules, f)
			mustBeZero(t, "Decide", code, number == 0)
		}
		for _, rule := range rules[:min(len(rules), impl.MaxClauses)] {
			f, code, core := impl.Witness(rule)
			mustBeZero(t, "Witness", code, f == impl.Facts{} && (len(core) == 0 || code == impl.ErrNone))
			for _, other := range append(mixedRules(), rule) {
				f, clash, code := impl.Clash(rule, other)
				mustBeZero(t, "Clash", code, f == impl.Facts{} && !clash)
				if !clash && f != (impl.Facts{}) {
					t.Errorf("Clash(%v, %v): no clash, and facts", rule, other)
				}
			}
		}
	}
	for _, text := range oddRuleTexts() {
		rules, code, line := impl.ReadRules(text)
		mustBeZero(t, "ReadRules", code, len(rules) == 0)
		if (line == 0) != (code == impl.OK || code == impl.ErrLong) || line < 0 {
			t.Errorf("ReadRules(%.100q): %d, line %d", text, code, line)
		}
	}
}

func TestP1ActsOfPointsOfAnyKindAreAnswered(t *testing.T) {
	for _, acts := range oddActs() {
		told, account, code := impl.PointsRun(acts)
		mustBeZero(t, "PointsRun", code, len(told) == 0 && sameAccount(account, impl.Account{}))
		if code == impl.OK && len(told) != len(acts) {
			t.Errorf("PointsRun tells %d of %d acts", len(told), len(acts))
		}
		for _, o := range told {
			if impl.CodeWord(o.Code) == "" {
				t.Errorf("PointsRun: %d is no code", o.Code)
			}
		}
	}
}

func TestP1TillsOfAnyKindAreAnswered(t *testing.T) {
	run := func(items []impl.Item, acts []impl.TillAct) {
		told, till, code := impl.TillRun(items, acts)
		mustBeZero(t, "TillRun", code, len(told) == 0 && sameTill(till, impl.Till{}))
		if code == impl.OK && (len(told) != len(acts) || len(till.Classes) != impl.MaxClass) {
			t.Errorf("TillRun tells %d of %d acts, and the classes %v", len(told), len(acts), till.Classes)
		}
		for _, o := range told {
			mustBeZero(t, "an act at the till", o.Code, o.Num == 0)
		}
	}
	for _, acts := range oddTillActs() {
		run(shopItems(), acts)
		run(nil, acts)
	}
	for _, items := range oddItems() {
		impl.ItemsOK(items)
		run(items, mixedTillActs())
	}
}

func TestP1CoinsAndTendersOfAnyKindAreAnswered(t *testing.T) {
	for _, held := range oddHeld() {
		impl.HeldOK(held)
		for _, due := range oddNumbers() {
			counts, code := impl.Change(due, held)
			mustBeZero(t, "Change", code, len(counts) == 0)
			if code == impl.OK && len(counts) != len(held) {
				t.Errorf("Change tells %d of %d kinds", len(counts), len(held))
			}
		}
	}
	for _, tenders := range oddTenders() {
		for _, total := range oddNumbers() {
			paid, code := impl.PayMix(total, tenders)
			mustBeZero(t, "PayMix", code, paid == impl.Paid{})
			if paid.Voucher < 0 || paid.Card < 0 || paid.Cash < 0 || paid.Lost < 0 || paid.Change < 0 || paid.Missing < 0 {
				t.Errorf("PayMix(%d, %v) = %+v: below nothing", total, tenders, paid)
			}
		}
	}
}

func TestP1JournalsOfAnyKindAreAnswered(t *testing.T) {
	for _, list := range oddEntries() {
		chained, code := impl.Chain(list)
		mustBeZero(t, "Chain", code, len(chained) == 0)
		if code == impl.OK && len(chained) != len(list) {
			t.Errorf("Chain tells %d of %d entries", len(chained), len(list))
		}
		code, place := impl.CheckJournal(list)
		mustBeZero(t, "CheckJournal", code, true)
		if place < 0 || place > 0 && (place >= len(list) || code == impl.OK || code == impl.ErrLong || code == impl.ErrMany) {
			t.Errorf("CheckJournal of %d entries: %d at %d", len(list), code, place)
		}
		text, code := impl.JournalText(list)
		mustBeZero(t, "JournalText", code, text == "")
		for _, counted := range oddNumbers() {
			off, code := impl.Counted(list, counted)
			mustBeZero(t, "Counted", code, off == 0)
		}
	}
	for _, text := range oddJournalTexts() {
		list, code, line := impl.ReadJournal(text)
		mustBeZero(t, "ReadJournal", code, len(list) == 0)
		if (line == 0) != (code == impl.OK || code == impl.ErrLong || code == impl.ErrMany) || line < 0 || line > impl.MaxEntries {
			t.Errorf("ReadJournal(%.100q): %d, line %d", text, code, line)
		}
	}
}

func TestP1PaymentsOfAnyKindAreAnswered(t *testing.T) {
	for _, acts := range oddPayActs() {
		codes, payments, code := impl.PayRun(acts)
		mustBeZero(t, "PayRun", code, len(codes) == 0 && len(payments) == 0)
		if code == impl.OK && len(codes) != len(acts) {
			t.Errorf("PayRun tells %d of %d acts", len(codes), len(acts))
		}
		for _, code := range codes {
			if impl.CodeWord(code) == "" {
				t.Errorf("PayRun: %d is no code", code)
			}
		}
	}
	for _, mine := range oddSettled() {
		for _, bank := range oddSettled() {
			match, code := impl.Settle(mine, bank)
			mustBeZero(t, "Settle", code, sameMatch(match, impl.Match{}))
			if code == impl.OK && (len(match.Pairs)+len(match.Mine) != len(mine) || len(match.Pairs)+len(match.Bank) != len(bank)) {
				t.Errorf("Settle tells %+v of %d and %d entries", match, len(mine), len(bank))
			}
		}
	}
}

func TestP1LogsOfAnyKindAreAnswered(t *testing.T) {
	for _, list := range oddLogs() {
		impl.EventsOK(list)
		for _, other := range [][]impl.Event{nil, list, mixedLog(), fullLog(), make([]impl.Event, impl.MaxList+1)} {
			merged, code := impl.MergeEvents(list, other)
			mustBeZero(t, "MergeEvents", code, len(merged) == 0)
			merged, code = impl.MergeEvents(other, list)
			mustBeZero(t, "MergeEvents", code, len(merged) == 0)
		}
		ledger, code := impl.LedgerOf(list)
		mustBeZero(t, "LedgerOf", code, sameLedger(ledger, impl.Ledger{}))
		for _, shop := range oddNumbers() {
			seq, code := impl.Missed(list, shop)
			mustBeZero(t, "Missed", code, seq == 0)
		}
	}
}

func TestP1ShelvesOfAnyKindAreAnswered(t *testing.T) {
	widths := append(oddNumbers(), 44, 208, impl.MaxWidth, impl.MaxWidth+1)
	for _, list := range oddFacings() {
		impl.FacingsOK(list)
		for _, width := range widths {
			plan, code := impl.BestShelf(list, width)
			mustBeZero(t, "BestShelf", code, samePlan(plan, impl.ShelfPlan{}))
			plan, code = impl.ShelfOf(list, width, leastOf(list))
			mustBeZero(t, "ShelfOf", code, samePlan(plan, impl.ShelfPlan{}))
		}
	}
	for _, counts := range oddLists() {
		for _, width := range widths {
			for _, list := range [][]impl.Facing{nil, teaShelf(), teaShelf()[:2], manyFacings(impl.MaxShelf, 9, 2, 5, 0, 6)} {
				plan, code := impl.ShelfOf(list, width, counts)
				mustBeZero(t, "ShelfOf", code, samePlan(plan, impl.ShelfPlan{}))
			}
		}
	}
}

func TestP1StockOfAnyKindIsAnswered(t *testing.T) {
	for _, acts := range oddStockActs() {
		told, stock, code := impl.StockRun(acts)
		mustBeZero(t, "StockRun", code, len(told) == 0 && sameStock(stock, impl.Stock{}))
		if code == impl.OK && len(told) != len(acts) {
			t.Errorf("StockRun tells %d of %d acts", len(told), len(acts))
		}
		for _, o := range told {
			mustBeZero(t, "an act of stock", o.Code, o.Num == 0)
		}
		if code == impl.OK {
			wantStockKept(t, "odd", acts)
		}
	}
}

func TestP1MarkdownsOfAnyKindAreAnswered(t *testing.T) {
	for _, price := range oddNumbers() {
		for _, percent := range append(oddNumbers(), 101) {
			n, code := impl.MarkPrice(price, percent)
			mustBeZero(t, "MarkPrice", code, n == 0)
		}
	}
	for _, m := range oddMarks() {
		plan, code := m.best()
		mustBeZero(t, "BestMarks", code, sameMarks(plan, impl.MarkPlan{}))
		if code == impl.OK && (len(plan.Steps) != len(m.demand) || len(plan.Sold) != len(m.demand)) {
			t.Errorf("BestMarks tells %v of %d days", plan, len(m.demand))
		}
		for _, steps := range [][]int{nil, {0}, {0, 1, 1, 2}, {2, 1, 1, 0}, alike(0, min(len(m.demand), impl.MaxList)), alike(0, impl.MaxList+1)} {
			plan, code = m.mark(steps)
			mustBeZero(t, "MarkOf", code, sameMarks(plan, impl.MarkPlan{}))
		}
	}
	for _, n := range oddNumbers() {
		for place := range 4 {
			steps := []int{0, 1, 1, 2}
			steps[place] = n
			plan, code := cakes().mark(steps)
			mustBeZero(t, "MarkOf", code, sameMarks(plan, impl.MarkPlan{}))
		}
	}
	for _, steps := range oddLists() {
		plan, code := cakes().mark(steps)
		mustBeZero(t, "MarkOf", code, sameMarks(plan, impl.MarkPlan{}))
	}
}

func TestP1ForecastsOfAnyKindAreAnswered(t *testing.T) {
	for _, f := range oddForecasts() {
		levels, code := impl.Smooth(f.list, f.num, f.den)
		mustBeZero(t, "Smooth", code, len(levels) == 0)
		if code == impl.OK && len(levels) != len(f.list) {
			t.Errorf("Smooth tells %d levels of %d sales", len(levels), len(f.list))
		}
		ratios, code := impl.Seasons(f.list, f.n)
		mustBeZero(t, "Seasons", code, len(ratios) == 0)
		if code == impl.OK && len(ratios) != f.n {
			t.Errorf("Seasons tells %d ratios of %d", len(ratios), f.n)
		}
		odds, code := impl.Odds(f.list, f.n)
		mustBeZero(t, "Odds", code, len(odds) == 0)
		if code == impl.OK && len(odds) != f.n*(len(f.list)-1)+1 {
			t.Errorf("Odds tells %d numbers of a table of %d and %d days", len(odds), len(f.list), f.n)
		}
		units, code := impl.SafeLevel(f.list, f.n, f.num, f.den)
		mustBeZero(t, "SafeLevel", code, units == 0)
	}
}

func TestP1OrdersOfAnyKindAreAnswered(t *testing.T) {
	for _, n := range oddNeeds() {
		units, cut, code := impl.OrderFor(n)
		mustBeZero(t, "OrderFor", code, units == 0 && !cut)
		if right := impl.NeedOK(n); right != (code != impl.ErrBad) {
			t.Errorf("NeedOK(%+v) = %v; OrderFor's code is %d", n, right, code)
		}
	}
	for _, loads := range oddLoads() {
		for _, truck := range oddNumbers() {
			pallets, trucks, code := impl.FillTrucks(loads, truck)
			mustBeZero(t, "FillTrucks", code, len(pallets) == 0 && trucks == 0)
			if code == impl.OK && len(pallets) != len(loads) {
				t.Errorf("FillTrucks tells %d numbers of %d loads", len(pallets), len(loads))
			}
		}
	}
}

func TestP1CalendarsOfAnyKindAreAnswered(t *testing.T) {
	for _, week := range oddWeeks() {
		for _, holidays := range oddHolidays() {
			for _, n := range append(oddNumbers(), impl.MaxDay, impl.MaxDay+1) {
				day, code := impl.NextDay(week, holidays, n)
				mustBeZero(t, "NextDay", code, day == 0)
			}
			for _, c := range [][2]int{{0, 30}, {30, 0}, {math.MinInt, math.MaxInt}, {0, math.MaxInt}, {0, 401}, {impl.MaxDay - 400, impl.MaxDay}} {
				days, code := impl.DeliveryDays(week, holidays, c[0], c[1])
				mustBeZero(t, "DeliveryDays", code, len(days) == 0)
			}
		}
	}
	for _, c := range oddStretches() {
		days, code := impl.DeliveryDays(allWeek(), []int{3, 7}, c[0], c[1])
		mustBeZero(t, "DeliveryDays", code, len(days) == 0)
	}
}

func TestP1SegmentsOfAnyKindAreAnswered(t *testing.T) {
	for _, list := range oddSegments() {
		text, code := impl.SegmentsText(list)
		mustBeZero(t, "SegmentsText", code, text == "")
	}
	for _, text := range oddSegmentTexts() {
		list, code, place := impl.ReadSegments(text)
		mustBeZero(t, "ReadSegments", code, len(list) == 0)
		if place < 0 || place > len(text) || place != 0 && (code == impl.OK || code == impl.ErrLong) {
			t.Errorf("ReadSegments(%.200q): code %d at %d", text, code, place)
		}
	}
}

func TestP1DocumentsOfAnyKindAreAnswered(t *testing.T) {
	for _, list := range oddDocs() {
		for _, other := range [][]impl.DocLine{nil, nordPapers()[0], list} {
			for _, p := range []papers{{list, other, nordPapers()[2]}, {other, list, other}, {nordPapers()[0], other, list}} {
				verdicts, code := p.match()
				mustBeZero(t, "ThreeWay", code, len(verdicts) == 0)
			}
		}
	}
	for _, rungs := range oddRungs() {
		for _, turnover := range oddNumbers() {
			bonus, code := impl.BonusOf(rungs, turnover)
			mustBeZero(t, "BonusOf", code, bonus == 0)
		}
	}
}

func oddHalls() []impl.Hall {
	halls := append(wrongHalls(), edgeHalls()...)
	for _, n := range oddNumbers() {
		halls = append(halls, hall(n, n, n), hall(n, 10, 3), hall(4, n, 3), hall(4, 10, n))
	}
	return halls
}

func oddSpots() []impl.Spot {
	spots := append(wrongSpots(teaHall()), edgeSpots(teaHall())...)
	for _, n := range oddNumbers() {
		spots = append(spots, spot(n, n), spot(n, 1), spot(1, n))
	}
	return spots
}

func oddPicks() [][]impl.Spot {
	lists := [][]impl.Spot{nil, {}, teaPicks(), edgeSpots(teaHall())[:impl.MaxPicks], edgeSpots(teaHall()), make([]impl.Spot, impl.MaxPicks), make([]impl.Spot, impl.MaxPicks+1), make([]impl.Spot, impl.MaxList), make([]impl.Spot, impl.MaxList+1)}
	for _, s := range oddSpots() {
		lists = append(lists, []impl.Spot{s}, append(teaPicks(), s), append([]impl.Spot{s}, teaPicks()...))
	}
	return lists
}

func oddLanes() [][]impl.Lane {
	lists := [][]impl.Lane{nil, {}, teaLanes(), lanesAlike(1, 100, impl.MaxLanes), lanesAlike(1, 100, impl.MaxLanes+1), make([]impl.Lane, impl.MaxList), make([]impl.Lane, impl.MaxList+1), lanesAlike(1, 1, impl.MaxList+1)}
	for _, n := range oddNumbers() {
		lists = append(lists, lanesOf([2]int{n, n}), append(teaLanes(), lanesOf([2]int{n, 1})...), append(lanesOf([2]int{1, n}), teaLanes()...))
	}
	return lists
}

func oddParcels() [][]int {
	return append(oddLists(), teaParcels(), alike(0, impl.MaxParcels), alike(1, impl.MaxParcels), alike(0, impl.MaxParcels+1), []int{8, 7, 6, 5, 4, 3, 2, 1, 0, 0, 1, 0})
}

func TestP1PathsOfAnyKindAreAnswered(t *testing.T) {
	for _, h := range oddHalls() {
		for _, a := range oddSpots() {
			far, code := impl.Between(h, a, spot(0, 1))
			mustBeZero(t, "Between", code, far == 0)
			far, code = impl.Between(h, spot(1, 0), a)
			mustBeZero(t, "Between", code, far == 0)
			order, length, code := impl.BestPath(h, append(teaPicks(), a))
			mustBeZero(t, "BestPath", code, len(order) == 0 && length == 0)
		}
	}
	for _, picks := range oddPicks() {
		order, length, code := impl.BestPath(teaHall(), picks)
		mustBeZero(t, "BestPath", code, len(order) == 0 && length == 0)
		if code == impl.OK && len(order) != len(picks) {
			t.Errorf("BestPath tells an order of %d for %d picks", len(order), len(picks))
		}
		for _, order := range append(oddLists(), []int{2, 0, 1}, []int{0, 1, 2, 3}) {
			length, code := impl.PathLength(teaHall(), picks, order)
			mustBeZero(t, "PathLength", code, length == 0)
		}
	}
}

func TestP1SortingsOfAnyKindAreAnswered(t *testing.T) {
	for _, lanes := range oddLanes() {
		for _, parcels := range oddParcels() {
			log, code := impl.SortRun(lanes, parcels)
			mustBeZero(t, "SortRun", code, sameLog(log, impl.SortLog{}))
			if code == impl.OK && len(log.Out) != len(parcels) {
				t.Errorf("SortRun tells %d ticks of %d parcels", len(log.Out), len(parcels))
			}
		}
	}
}

func oddStops() [][]impl.Stop {
	lists := [][]impl.Stop{nil, {}, teaStops(), edgeStops()[:impl.MaxStops], edgeStops()[impl.MaxStops:], edgeStops(), make([]impl.Stop, impl.MaxStops), make([]impl.Stop, impl.MaxStops+1), make([]impl.Stop, impl.MaxList), make([]impl.Stop, impl.MaxList+1), slices.Repeat(wrongStops(), impl.MaxList)}
	for _, s := range append(wrongStops(), edgeStops()...) {
		lists = append(lists, []impl.Stop{s}, append(teaStops(), s))
	}
	for _, n := range oddNumbers() {
		lists = append(lists, []impl.Stop{stopAt(n, n, n, n, n)}, append(teaStops(), stopAt(n, 3, 0, 100, 1)), append(teaStops(), stopAt(3, 4, 0, n, 1)))
	}
	return lists
}

func oddBegins() []int { return append(oddNumbers(), impl.MaxClock-1, impl.MaxClock, impl.MaxClock+1) }

func oddOrders() [][]int {
	return append(oddLists(), []int{1, 0}, []int{0, 1}, []int{2, 0, 1}, []int{0, 1, 2}, []int{6, 5, 4, 3, 2, 1, 0}, numbersUpTo(impl.MaxStops+1))
}

func TestP1RoutesOfAnyKindAreAnswered(t *testing.T) {
	for _, stops := range oddStops() {
		impl.StopsOK(stops)
		for _, begin := range oddBegins() {
			best, code := impl.BestRoute(stops, begin)
			mustBeZero(t, "BestRoute", code, sameRoute(best, impl.Route{}))
			if code == impl.OK && (len(best.Order) != len(stops) || len(best.Arrives) != len(stops)) {
				t.Errorf("BestRoute tells %+v of %d stops", best, len(stops))
			}
			end, code := impl.LeastEnd(stops, begin)
			mustBeZero(t, "LeastEnd", code, end == 0)
			route, code := impl.RouteOf(stops, begin, []int{2, 0, 1})
			mustBeZero(t, "RouteOf", code, sameRoute(route, impl.Route{}))
		}
		for _, order := range oddOrders() {
			route, code := impl.RouteOf(stops, 3, order)
			mustBeZero(t, "RouteOf", code, sameRoute(route, impl.Route{}))
		}
	}
}

func oddShifts() [][]impl.Shift {
	lists := [][]impl.Shift{nil, {}, teaShifts(), edgeShifts()[:impl.MaxShifts], edgeShifts(), apartShifts(impl.MaxShifts), apartShifts(impl.MaxShifts + 1), make([]impl.Shift, impl.MaxList), make([]impl.Shift, impl.MaxList+1), slices.Repeat(wrongShifts(), impl.MaxList)}
	for _, s := range append(wrongShifts(), edgeShifts()...) {
		lists = append(lists, []impl.Shift{s}, append(teaShifts(), s), append([]impl.Shift{s}, teaShifts()...))
	}
	for _, n := range oddNumbers() {
		lists = append(lists, []impl.Shift{shiftAt(n, n, "till")}, append(teaShifts(), shiftAt(n, 9999, "till")), append(teaShifts(), shiftAt(110, n, "bread")))
	}
	return lists
}

func oddWorkers() [][]impl.Worker {
	lists := [][]impl.Worker{nil, {}, teaWorkers(), edgeWorkers()[:impl.MaxWorkers], edgeWorkers(), freeWorkers(impl.MaxWorkers), freeWorkers(impl.MaxWorkers + 1), make([]impl.Worker, impl.MaxList), make([]impl.Worker, impl.MaxList+1), {free("a", 1), free("a", 1)}}
	for _, w := range append(wrongWorkers(), edgeWorkers()...) {
		lists = append(lists, []impl.Worker{w}, append(teaWorkers(), w))
	}
	for _, n := range oddNumbers() {
		lists = append(lists, []impl.Worker{workerOf("x", n, n, n, "till")}, append(teaWorkers(), workerOf("x", n, 10, 1, "till", "bread")), append(teaWorkers(), workerOf("x", 100, n, 1, "till", "bread")), append(teaWorkers(), workerOf("x", 100, 10, n, "till", "bread")))
	}
	return lists
}

func oddWho() [][]int { return append(oddLists(), []int{0, 1, 1}, []int{1, 0, 0}, []int{0, 1, 2}) }

func TestP1RostersOfAnyKindAreAnswered(t *testing.T) {
	wants := func(shifts []impl.Shift, workers []impl.Worker) {
		impl.ShiftsOK(shifts, workers)
		best, code := impl.BestRoster(shifts, workers)
		mustBeZero(t, "BestRoster", code, sameRoster(best, impl.Roster{}))
		if code == impl.OK && len(best.Who) != len(shifts) {
			t.Errorf("BestRoster tells %+v of %d shifts", best, len(shifts))
		}
		for _, who := range oddWho() {
			roster, code, at := impl.RosterOf(shifts, workers, who)
			mustBeZero(t, "RosterOf", code, sameRoster(roster, impl.Roster{}))
			if at != 0 && (code == impl.OK || at < 0 || at >= len(shifts)) {
				t.Errorf("RosterOf tells shift %d of %d, %d", at, len(shifts), code)
			}
		}
	}
	for _, shifts := range oddShifts() {
		for _, workers := range [][]impl.Worker{nil, teaWorkers(), {wrongWorkers()[0]}} {
			wants(shifts, workers)
		}
	}
	for _, workers := range oddWorkers() {
		for _, shifts := range [][]impl.Shift{nil, teaShifts(), {wrongShifts()[0]}} {
			wants(shifts, workers)
		}
	}
}

func oddTraces() [][]float64 {
	traces := slices.Concat(rightTraces(), wrongTraces(), longTraces(), [][]float64{{}, make([]float64, impl.MaxList)})
	for _, number := range oddFloats() {
		traces = append(traces, []float64{number}, []float64{8, number, 9}, []float64{number, 8, 8, number, -8, number})
	}
	return traces
}

func oddFloats() []float64 {
	list := slices.Concat(gaps(), beyond(1000), beyond(1000000), []float64{0, minusNought(), 5e-324, -5e-324, 1, 1.5, 4, -1, 1000, -1000, 1000000, -1000000, math.SmallestNonzeroFloat32, math.MaxFloat32})
	for _, n := range oddNumbers() {
		list = append(list, float64(n))
	}
	return list
}

func oddPowers() [][]impl.Power {
	lists := slices.Concat(rightPowers(), wrongPowers(), [][]impl.Power{{}, {{}}, make([]impl.Power, impl.MaxPhases+1), make([]impl.Power, impl.MaxList), make([]impl.Power, impl.MaxList+1)})
	for _, number := range oddFloats() {
		lists = append(lists, []impl.Power{powerAt(number, 1)}, []impl.Power{powerAt(3, 4), powerAt(number, number)})
	}
	return lists
}

// isNumber: each is one, and a finite one.
func isNumber(numbers ...float64) bool {
	return !slices.ContainsFunc(numbers, func(number float64) bool { return math.IsNaN(number) || math.IsInf(number, 0) })
}

func TestP1FridgesOfAnyKindAreAnswered(t *testing.T) {
	for _, trace := range oddTraces() {
		watch, code := impl.WatchOf(trace)
		mustBeZero(t, "WatchOf", code, sameWatch(watch, impl.Watch{}))
		if !isNumber(watch.Mean, watch.Least, watch.Most) {
			t.Errorf("WatchOf of %.300s tells %v", fmt.Sprint(trace), watch)
		}
		for _, number := range oddFloats() {
			for _, hold := range []int{math.MinInt, 0, 1, 2, impl.MaxTrace, impl.MaxTrace + 1, math.MaxInt} {
				alarms, code := impl.Alarms(trace, number, -number, hold)
				mustBeZero(t, "Alarms", code, len(alarms) == 0)
			}
			warm, code := impl.WarmMinutes(trace, number, float32(number))
			mustBeZero(t, "WarmMinutes", code, math.Float32bits(warm) == 0)
			warm, code = impl.WarmMinutes(trace, number, 1.5)
			mustBeZero(t, "WarmMinutes", code, math.Float32bits(warm) == 0)
			if !isNumber(float64(warm)) {
				t.Errorf("WarmMinutes of %.300s, %v tells %v", fmt.Sprint(trace), number, warm)
			}
		}
	}
}

func TestP1PowersOfAnyKindAreAnswered(t *testing.T) {
	for _, volts := range oddPowers() {
		bridge, code := impl.Bridge(volts)
		mustBeZero(t, "Bridge", code, noPower(bridge))
		for _, amps := range [][]impl.Power{nil, volts, manyPowers(1), manyPowers(2), wrongPowers()[5], manyPowers(len(volts))} {
			for _, both := range [][2][]impl.Power{{volts, amps}, {amps, volts}} {
				power, code := impl.PowerOf(both[0], both[1])
				mustBeZero(t, "PowerOf", code, noPower(power))
				if !isNumber(power.Re, power.Im, bridge.Re, bridge.Im) {
					t.Errorf("of %.300s, %.300s: %v, %v", fmt.Sprint(volts), fmt.Sprint(amps), power, bridge)
				}
			}
		}
	}
}

func oddSources() [][]impl.Source {
	lists := slices.Concat(wrongListsOfSources(), longListsOfSources(), [][]impl.Source{nil, {}, webSources(), fullSources(impl.MaxSources, impl.MaxKinds, impl.MaxMany), sourcesOf(sourceOf("s", 0))})
	for _, n := range oddNumbers() {
		lists = append(lists, sourcesOf(sourceOf("s", n, stocked("a", 9), stocked("b", 9))), append(webSources(), sourceOf("s", 1, stocked("a", n), stocked("b", 2))))
	}
	for _, text := range oddTexts() {
		lists = append(lists, sourcesOf(sourceOf(text, 1, stocked("a", 9))), append(webSources(), sourceOf("s", 1, stocked(text, 9))))
	}
	return lists
}

func oddWanted() [][]impl.Stocked {
	lists := slices.Concat(rightWanted(), wrongWanted(), longWanted(), [][]impl.Stocked{webWanted()})
	for _, n := range oddNumbers() {
		lists = append(lists, stockedOf(stocked("a", n)), append(webWanted(), stocked("c", n)))
	}
	for _, text := range oddTexts() {
		lists = append(lists, stockedOf(stocked(text, 1)), append(webWanted(), stocked(text, 1)))
	}
	return lists
}

func oddFrom() [][]int {
	return slices.Concat(oddLists(), ordersThatFitNot(2), [][]int{{0, 0}, {1, 2}, {2, 2}, {0}, alike(0, impl.MaxList+1)})
}

// mixedCartActs have each kind of act and of code; behind them there are several holds.
func mixedCartActs() []impl.CartAct {
	return cartsAhead(fourHolds(), cartHeld(4, 90, 5), impl.CartAct{Kind: 7}, cartBought(9), cartDropped(0), minutesOn(-1), cartHeld(0, 1, 1), minutesOn(7), cartBought(4), cartDropped(6), cartHeld(2, 3, 4), cartHeld(8, 60, 9), cartHeld(2, 1, 90))
}

func oddCartActs() [][]impl.CartAct {
	lists := [][]impl.CartAct{nil, {}, make([]impl.CartAct, 1), mixedCartActs(), fourHolds(), make([]impl.CartAct, impl.MaxActs), make([]impl.CartAct, impl.MaxActs+1), make([]impl.CartAct, impl.MaxList), make([]impl.CartAct, impl.MaxList+1)}
	for _, n := range append(oddNumbers(), 4, 5, 6, impl.MaxHold, impl.MaxHold+1, impl.MaxMany, impl.MaxLotNo, impl.MaxLotNo+1) {
		for _, act := range cartActs(impl.CartAct{Kind: n, Cart: 4, Units: 1, Num: 1}, impl.CartAct{Kind: n, Cart: n, Units: n, Num: n}, cartHeld(n, 1, 9), cartHeld(4, n, 9), cartHeld(4, 1, n), cartBought(n), cartDropped(n), minutesOn(n)) {
			lists = append(lists, slices.Concat(cartActs(act), fourHolds(), cartActs(act, minutesOn(7), act, cartBought(4), act, act)))
		}
	}
	return lists
}

func oddStocks() []int { return append(oddNumbers(), 39, 100, impl.MaxMany, impl.MaxMany+1) }

func TestP1SourcesOfAnyKindAreAnswered(t *testing.T) {
	wants := func(sources []impl.Source, wanted []impl.Stocked) {
		impl.SourcesOK(sources, wanted)
		best, code := impl.BestSource(sources, wanted)
		mustBeZero(t, "BestSource", code, sameSending(best, impl.Sourcing{}))
		if code == impl.OK && len(best.From) != len(wanted) {
			t.Errorf("BestSource tells %+v of %d entries", best, len(wanted))
		}
		for _, from := range oddFrom() {
			sending, code := impl.SourceOf(sources, wanted, from)
			mustBeZero(t, "SourceOf", code, sameSending(sending, impl.Sourcing{}))
		}
	}
	for _, sources := range oddSources() {
		for _, wanted := range [][]impl.Stocked{nil, webWanted(), make([]impl.Stocked, 1)} {
			wants(sources, wanted)
		}
	}
	for _, wanted := range oddWanted() {
		for _, sources := range [][]impl.Source{nil, webSources(), make([]impl.Source, 1)} {
			wants(sources, wanted)
		}
	}
}

func TestP1CartsOfAnyKindAreAnswered(t *testing.T) {
	for _, acts := range oddCartActs() {
		for _, units := range oddStocks() {
			told, carts, code := impl.CartRun(units, acts)
			mustBeZero(t, "CartRun", code, len(told) == 0 && sameCarts(carts, impl.Carts{}))
			if code != impl.OK {
				continue
			}
			if len(told) != len(acts) || carts.Free+heldUnits(carts.Holds)+carts.Sold != units {
				t.Errorf("CartRun(%d) tells %d of %d acts, %+v", units, len(told), len(acts), carts)
			}
			for _, o := range told {
				mustBeZero(t, "an act of carts", o.Code, o.Free >= 0)
			}
		}
		wantCartsKept(t, "odd", 100, acts[:min(len(acts), impl.MaxActs)])
	}
}

func TestP1NoArgumentIsChanged(t *testing.T) {
	for _, amount := range []int{1000, -10, 0, most, -most, most + 1} {
		for _, list := range oddLists() {
			held := append(slices.Clone(list), 77, 78, 79) // what stands behind the end of the argument
			before := slices.Clone(held)
			impl.Share(amount, held[:len(list)])
			if !slices.Equal(held, before) {
				t.Fatalf("Share(%d) changed what it was given", amount)
			}
		}
	}
}

func TestP1NoPackIsChanged(t *testing.T) {
	for _, packs := range oddPacks() {
		held := append(slices.Clone(packs), impl.Pack{Name: "behind", Of: "the", Count: 78}) // what stands behind the end of the argument
		before := slices.Clone(held)
		impl.PackUnits(held[:len(packs)])
		impl.Unpack(held[:len(packs)], 59)
		if !slices.Equal(held, before) {
			t.Fatalf("packs that were given are changed: %v", held)
		}
	}
}

func TestP1NoTaxRowOrLineIsChanged(t *testing.T) {
	for _, rows := range oddTaxRows() {
		for _, lines := range oddTaxLines() {
			heldRows, heldLines := append(slices.Clone(rows), taxRow(7, "behind", 7, 8)), append(slices.Clone(lines), impl.TaxLine{Class: 7, Gross: 8}) // what stands behind the end of the argument
			beforeRows, beforeLines := slices.Clone(heldRows), slices.Clone(heldLines)
			impl.TaxRowsOK(heldRows[:len(rows)])
			impl.TaxAt(heldRows[:len(rows)], 1, "n", 3)
			impl.TaxBook(heldRows[:len(rows)], "n", 3, heldLines[:len(lines)])
			if !slices.Equal(heldRows, beforeRows) || !slices.Equal(heldLines, beforeLines) {
				t.Fatalf("what was given is changed: %v, %v", heldRows, heldLines)
			}
		}
	}
}

func TestP1NoPriceRowIsChanged(t *testing.T) {
	for _, rows := range oddPriceRows() {
		held := append(slices.Clone(rows), priceRow("behind", "the", 7, 8, 9, 10)) // what stands behind the end of the argument
		before := slices.Clone(held)
		impl.PricesOK(held[:len(rows)])
		impl.PriceAt(held[:len(rows)], "milk", "north", 3)
		impl.PriceSteps(held[:len(rows)], "milk", "north", 0, 10)
		if !slices.Equal(held, before) {
			t.Fatalf("price rows that were given are changed: %v", held)
		}
	}
}

// withUnitsBehind hands out uses whose lists of units have a number behind their end.
func withUnitsBehind(uses []impl.Use) []impl.Use {
	held := slices.Clone(uses)
	for i := range held {
		held[i].Units = append(slices.Clone(held[i].Units), 77)[:len(held[i].Units)]
	}
	return held
}

func unitsBehind(uses []impl.Use) []int {
	var all []int
	for _, use := range uses {
		all = append(all, use.Units[:len(use.Units)+1]...)
	}
	return all
}

func TestP1NoUnitDealOrUseIsChanged(t *testing.T) {
	for _, uses := range oddUses() {
		heldUnits, heldDeals, heldUses := append(mixedBasket(), impl.Unit{Article: "behind", Price: 7}), append(mixedDeals(), dealOf("behind", 7, 8, 9, "the")), append(withUnitsBehind(uses), useOf(7, 8, 9))
		beforeUnits, beforeDeals, beforeUses, beforeNumbers := slices.Clone(heldUnits), append(mixedDeals(), dealOf("behind", 7, 8, 9, "the")), append(withUnitsBehind(uses), useOf(7, 8, 9)), unitsBehind(heldUses[:len(uses)])
		units, deals := heldUnits[:len(heldUnits)-1], heldDeals[:len(heldDeals)-1]
		impl.DealsOK(deals)
		impl.Best(units, deals)
		impl.Priced(units, deals, heldUses[:len(uses)])
		if !slices.Equal(heldUnits, beforeUnits) || !reflect.DeepEqual(heldDeals, beforeDeals) || !reflect.DeepEqual(heldUses, beforeUses) || !slices.Equal(unitsBehind(heldUses[:len(uses)]), beforeNumbers) {
			t.Fatalf("what was given is changed: %v, %v, %v", heldUnits, heldDeals, heldUses)
		}
	}
}

// withTermsBehind hands out rules whose lists of terms have a term behind their end.
func withTermsBehind(rules []impl.Clause) []impl.Clause {
	held := slices.Clone(rules)
	for i := range held {
		held[i].Terms = append(slices.Clone(held[i].Terms), term(7, 8, 9))[:len(held[i].Terms)]
	}
	return held
}

func termsBehind(rules []impl.Clause) []impl.Term {
	var all []impl.Term
	for _, rule := range rules {
		all = append(all, rule.Terms[:len(rule.Terms)+1]...)
	}
	return all
}

func TestP1NoRuleIsChanged(t *testing.T) {
	for _, rules := range oddRules() {
		held := withTermsBehind(append(slices.Clone(rules), ruleOf("behind", 7, 8)))
		before, terms := slices.Clone(held), termsBehind(held)
		given := held[:len(rules)]
		impl.ClausesOK(given)
		impl.RulesText(given)
		impl.Decide(given, someFacts())
		impl.Hidden(given)
		for at := range given[:min(len(given), impl.MaxClauses)] {
			impl.Witness(given[at])
			impl.Clash(given[at], given[0])
			impl.Clash(given[at], held[len(rules)])
		}
		if !sameRules(held, before) || !slices.Equal(termsBehind(held), terms) {
			t.Fatalf("rules that were given are changed: %.300v", held)
		}
	}
}

func TestP1NoActOfPointsIsChanged(t *testing.T) {
	for _, acts := range oddActs() {
		held := append(slices.Clone(acts), earn(7, 8))
		before := slices.Clone(held)
		impl.PointsRun(held[:len(acts)])
		if !slices.Equal(held, before) {
			t.Fatalf("acts that were given are changed: %.300v", held)
		}
	}
}

func TestP1NoItemOrActOfATillIsChanged(t *testing.T) {
	for _, acts := range oddTillActs() {
		held, items := append(slices.Clone(acts), paid(7)), append(shopItems(), itemOf("77777"))
		before, itemsBefore := slices.Clone(held), slices.Clone(items)
		impl.TillRun(items[:len(items)-1], held[:len(acts)])
		if !slices.Equal(held, before) || !slices.Equal(items, itemsBefore) {
			t.Fatalf("acts or items that were given are changed: %.300v, %v", held, items)
		}
	}
	for _, items := range oddItems() {
		held := append(slices.Clone(items), itemOf("77777"))
		before := slices.Clone(held)
		impl.ItemsOK(held[:len(items)])
		impl.TillRun(held[:len(items)], mixedTillActs())
		if !slices.Equal(held, before) {
			t.Fatalf("items that were given are changed: %.300v", held)
		}
	}
}

func TestP1NoCoinOrTenderIsChanged(t *testing.T) {
	for _, held := range oddHeld() {
		given := append(slices.Clone(held), impl.Coins{Value: 7, Count: 8})
		before := slices.Clone(given)
		impl.HeldOK(given[:len(held)])
		impl.Change(21, given[:len(held)])
		impl.Change(impl.MaxChange, given[:len(held)])
		if !slices.Equal(given, before) {
			t.Fatalf("coins that were given are changed: %.300v", given)
		}
	}
	for _, tenders := range oddTenders() {
		given := append(slices.Clone(tenders), cash(7))
		before := slices.Clone(given)
		impl.PayMix(1000, given[:len(tenders)])
		if !slices.Equal(given, before) {
			t.Fatalf("tenders that were given are changed: %.300v", given)
		}
	}
}

func TestP1NoEntryIsChanged(t *testing.T) {
	for _, list := range oddEntries() {
		held := append(slices.Clone(list), event(7, 8, "behind"))
		before := slices.Clone(held)
		given := held[:len(list)]
		impl.Chain(given)
		impl.CheckJournal(given)
		impl.JournalText(given)
		impl.Counted(given, 5)
		if !slices.Equal(held, before) {
			t.Fatalf("entries that were given are changed: %.300v", held)
		}
	}
}

func TestP1NoActOfPaymentsOrSettledEntryIsChanged(t *testing.T) {
	for _, acts := range oddPayActs() {
		held := append(slices.Clone(acts), authorised("behind", 7))
		before := slices.Clone(held)
		impl.PayRun(held[:len(acts)])
		if !slices.Equal(held, before) {
			t.Fatalf("acts that were given are changed: %.300v", held)
		}
	}
	for _, list := range oddSettled() {
		mine, bank := append(slices.Clone(list), settled("behind", 7)), append(slices.Clone(list), settled("behind", 8))
		mineBefore, bankBefore := slices.Clone(mine), slices.Clone(bank)
		impl.Settle(mine[:len(list)], bank[:len(list)])
		if !slices.Equal(mine, mineBefore) || !slices.Equal(bank, bankBefore) {
			t.Fatalf("entries that were given are changed: %.300v, %.300v", mine, bank)
		}
	}
}

func TestP1NoEventIsChanged(t *testing.T) {
	for _, list := range oddLogs() {
		for _, other := range [][]impl.Event{mixedLog(), fullLog()} {
			one, two := append(slices.Clone(list), couponAt(7, 7, 7, "behind")), append(slices.Clone(other), couponAt(8, 8, 8, "behind"))
			oneBefore, twoBefore := slices.Clone(one), slices.Clone(two)
			impl.EventsOK(one[:len(list)])
			impl.MergeEvents(one[:len(list)], two[:len(other)])
			impl.MergeEvents(two[:len(other)], one[:len(list)])
			impl.MergeEvents(one[:len(list)], one[:len(list)])
			impl.LedgerOf(one[:len(list)])
			impl.Missed(one[:len(list)], 1)
			if !slices.Equal(one, oneBefore) || !slices.Equal(two, twoBefore) {
				t.Fatalf("events that were given are changed: %.300v, %.300v", one, two)
			}
		}
	}
}

// withGainsBehind hands out facings whose Gains have a number behind their end.
func withGainsBehind(list []impl.Facing) []impl.Facing {
	given := slices.Clone(list)
	for i, f := range given {
		given[i].Gains = append(slices.Clone(f.Gains), 77)[:len(f.Gains)]
	}
	return given
}

func gainsBehind(list []impl.Facing) []int {
	var numbers []int
	for _, f := range list {
		numbers = append(numbers, f.Gains[:len(f.Gains)+1]...)
	}
	return numbers
}

func TestP1NoFacingOrCountIsChanged(t *testing.T) {
	for _, list := range oddFacings() {
		given, before := withGainsBehind(append(slices.Clone(list), facing("behind", 7, 1, 8))), withGainsBehind(append(slices.Clone(list), facing("behind", 7, 1, 8)))
		for _, counts := range [][]int{leastOf(list), fullOf(list), {1, 1, 0, 4}} {
			countsGiven := append(slices.Clone(counts), 77)
			countsBefore := slices.Clone(countsGiven)
			impl.FacingsOK(given[:len(list)])
			for _, width := range []int{0, 44, 300, impl.MaxWidth} {
				impl.ShelfOf(given[:len(list)], width, countsGiven[:len(counts)])
				impl.BestShelf(given[:len(list)], width)
			}
			if !slices.Equal(countsGiven, countsBefore) {
				t.Fatalf("counts that were given are changed: %.300v", countsGiven)
			}
		}
		if !reflect.DeepEqual(given, before) || !slices.Equal(gainsBehind(given), gainsBehind(before)) {
			t.Fatalf("facings that were given are changed: %.300v", given)
		}
	}
}

func TestP1NoActOfStockIsChanged(t *testing.T) {
	for _, acts := range oddStockActs() {
		held := append(slices.Clone(acts), receipt("behind", 7, 8, 9))
		before := slices.Clone(held)
		impl.StockRun(held[:len(acts)])
		if !slices.Equal(held, before) {
			t.Fatalf("acts that were given are changed: %s", brief(held))
		}
	}
}

// withNumbersBehind hands out a copy of which each list has one more behind its end, and its days, too.
func (m markdown) withNumbersBehind() markdown {
	m = m.copied()
	m.percents = append(m.percents, 77)[:len(m.percents)]
	for day := range m.demand {
		m.demand[day] = append(m.demand[day], 78)[:len(m.demand[day])]
	}
	m.demand = append(m.demand, []int{79})[:len(m.demand)]
	return m
}

// numbersBehind are all numbers of the lists, with those behind their ends.
func (m markdown) numbersBehind() []int {
	numbers := slices.Clone(m.percents[:len(m.percents)+1])
	for _, day := range m.demand {
		numbers = append(numbers, day[:len(day)+1]...)
	}
	return append(numbers, m.demand[:len(m.demand)+1][len(m.demand)]...)
}

func TestP1NoPercentDemandOrStepIsChanged(t *testing.T) {
	for _, m := range oddMarks() {
		given := m.withNumbersBehind()
		before := given.numbersBehind()
		for _, steps := range [][]int{{0, 1, 1, 2}, {2, 1, 1, 0}, alike(0, min(len(m.demand), impl.MaxList))} {
			stepsGiven := append(slices.Clone(steps), 80)
			stepsBefore := slices.Clone(stepsGiven)
			given.mark(stepsGiven[:len(steps)])
			if !slices.Equal(stepsGiven, stepsBefore) {
				t.Fatalf("steps that were given are changed: %v", stepsGiven)
			}
		}
		given.best()
		if len(given.demand) != len(m.demand) || !slices.Equal(given.numbersBehind(), before) {
			t.Fatalf("percents or a demand that were given are changed: %v", given)
		}
	}
}

func TestP1NoSalesOrTableIsChanged(t *testing.T) {
	for _, f := range oddForecasts() {
		held := append(slices.Clone(f.list), 77, 78, 79) // what stands behind the end of the argument
		before := slices.Clone(held)
		given := held[:len(f.list)]
		impl.Smooth(given, f.num, f.den)
		impl.Seasons(given, f.n)
		impl.Odds(given, f.n)
		impl.SafeLevel(given, f.n, f.num, f.den)
		if !slices.Equal(held, before) {
			t.Fatalf("sales or a table that were given are changed: %.200s", fmt.Sprint(held))
		}
	}
}

func TestP1NoLoadIsChanged(t *testing.T) {
	for _, loads := range oddLoads() {
		held := append(slices.Clone(loads), loadsAlike(77, 78, 3)...) // what stands behind the end of the argument
		before := slices.Clone(held)
		for _, truck := range []int{0, 1, 7, 10, impl.MaxTruck} {
			impl.FillTrucks(held[:len(loads)], truck)
		}
		if !slices.Equal(held, before) {
			t.Fatalf("loads that were given are changed: %.200s", fmt.Sprint(held))
		}
	}
}

func TestP1NoWeekOrHolidayIsChanged(t *testing.T) {
	for _, week := range oddWeeks() {
		for _, holidays := range oddHolidays() {
			heldWeek := append(slices.Clone(week), true, false, true) // what stands behind the end of the argument
			heldDays := append(slices.Clone(holidays), 77, 78, 79)
			beforeWeek, beforeDays := slices.Clone(heldWeek), slices.Clone(heldDays)
			for _, day := range []int{-1, 0, 5} {
				impl.NextDay(heldWeek[:len(week)], heldDays[:len(holidays)], day)
				impl.DeliveryDays(heldWeek[:len(week)], heldDays[:len(holidays)], day, 90)
			}
			if !slices.Equal(heldWeek, beforeWeek) || !slices.Equal(heldDays, beforeDays) {
				t.Fatalf("a week or holidays that were given are changed: %.200s, %.200s", fmt.Sprint(heldWeek), fmt.Sprint(heldDays))
			}
		}
	}
}

// withPartsBehind hands out segments whose lists of parts have a part behind their end.
func withPartsBehind(list []impl.Segment) []impl.Segment {
	held := slices.Clone(list)
	for i := range held {
		held[i].Parts = append(slices.Clone(held[i].Parts), "behind")[:len(held[i].Parts)]
	}
	return held
}

func partsBehind(list []impl.Segment) []string {
	var all []string
	for _, s := range list {
		all = append(all, s.Parts[:len(s.Parts)+1]...)
	}
	return all
}

func TestP1NoSegmentIsChanged(t *testing.T) {
	for _, list := range oddSegments() {
		held := withPartsBehind(append(slices.Clone(list), segment("XYZ", "a", "b")))
		before, parts := slices.Clone(held), partsBehind(held)
		impl.SegmentsText(held[:len(list)])
		if !sameSegments(held, before) || !slices.Equal(partsBehind(held), parts) {
			t.Fatalf("segments that were given are changed: %.300s", fmt.Sprint(held))
		}
	}
}

func TestP1NoDocLineOrRungIsChanged(t *testing.T) {
	for _, list := range oddDocs() {
		var held, before papers
		for place := range held {
			held[place] = append(slices.Clone(list), docLine("behind", place, 7))
			before[place] = slices.Clone(held[place])
		}
		given := papers{held[0][:len(list)], held[1][:len(list)], held[2][:len(list)]}
		given.match()
		given.with(1, nordPapers()[1]).match()
		given.with(0, nordPapers()[0]).match()
		for place := range held {
			if !slices.Equal(held[place], before[place]) {
				t.Fatalf("lines that were given are changed: %v", held)
			}
		}
	}
	for _, rungs := range oddRungs() {
		held := append(slices.Clone(rungs), rung(7, 8, 9))
		before := slices.Clone(held)
		for _, turnover := range []int{-1, 0, 5, 5000, impl.MaxMoney} {
			impl.BonusOf(held[:len(rungs)], turnover)
		}
		if !slices.Equal(held, before) {
			t.Fatalf("rungs that were given are changed: %.200s", fmt.Sprint(held))
		}
	}
}

func TestP1NoPickOrOrderIsChanged(t *testing.T) {
	for _, picks := range oddPicks() {
		for _, order := range append(oddLists(), []int{2, 0, 1}, []int{3, 0, 1, 2}, []int{8, 7, 6, 5, 4, 3, 2, 1, 0}) {
			heldPicks := append(slices.Clone(picks), spotsOf([2]int{77, 78}, [2]int{3, 3})...) // what stands behind the end of the argument
			heldOrder := append(slices.Clone(order), 77, 78, 79)
			beforePicks, beforeOrder := slices.Clone(heldPicks), slices.Clone(heldOrder)
			impl.PathLength(teaHall(), heldPicks[:len(picks)], heldOrder[:len(order)])
			if !slices.Equal(heldPicks, beforePicks) || !slices.Equal(heldOrder, beforeOrder) {
				t.Fatalf("picks or an order that were given are changed: %.200s, %.200s", fmt.Sprint(heldPicks), fmt.Sprint(heldOrder))
			}
		}
		held := append(slices.Clone(picks), spotsOf([2]int{77, 78}, [2]int{3, 3})...)
		before := slices.Clone(held)
		impl.BestPath(teaHall(), held[:len(picks)])
		if !slices.Equal(held, before) {
			t.Fatalf("picks that were given are changed: %.200s", fmt.Sprint(held))
		}
	}
}

func TestP1NoLaneOrParcelIsChanged(t *testing.T) {
	for _, lanes := range oddLanes() {
		for _, parcels := range oddParcels() {
			heldLanes := append(slices.Clone(lanes), lanesOf([2]int{77, 78}, [2]int{1, 1})...) // what stands behind the end of the argument
			heldParcels := append(slices.Clone(parcels), 77, 78, 79)
			beforeLanes, beforeParcels := slices.Clone(heldLanes), slices.Clone(heldParcels)
			impl.SortRun(heldLanes[:len(lanes)], heldParcels[:len(parcels)])
			if !slices.Equal(heldLanes, beforeLanes) || !slices.Equal(heldParcels, beforeParcels) {
				t.Fatalf("lanes or parcels that were given are changed: %.200s, %.200s", fmt.Sprint(heldLanes), fmt.Sprint(heldParcels))
			}
		}
	}
}

func TestP1NoStopOrOrderIsChanged(t *testing.T) {
	for _, stops := range oddStops() {
		heldStops := append(slices.Clone(stops), stopAt(77, 78, 79, 80, 81), stopAt(1, 2, 3, 4, 5)) // what stands behind the end of the argument
		beforeStops := slices.Clone(heldStops)
		given := heldStops[:len(stops)]
		for _, order := range oddOrders() {
			heldOrder := append(slices.Clone(order), 77, 78, 79)
			beforeOrder := slices.Clone(heldOrder)
			impl.RouteOf(given, 3, heldOrder[:len(order)])
			if !slices.Equal(heldOrder, beforeOrder) {
				t.Fatalf("an order that was given is changed: %.200s", fmt.Sprint(heldOrder))
			}
		}
		impl.StopsOK(given)
		impl.BestRoute(given, 3)
		impl.LeastEnd(given, 3)
		if !slices.Equal(heldStops, beforeStops) {
			t.Fatalf("stops that were given are changed: %.200s", fmt.Sprint(heldStops))
		}
	}
}

// withSkillsBehind makes workers whose Skills have texts behind their ends.
func withSkillsBehind(workers []impl.Worker) []impl.Worker {
	held := append(slices.Clone(workers), workerOf("behind", 1, 2, 3, "behind"), workerOf("a", 4, 5, 6)) // what stands behind the end of the argument
	for number, w := range held {
		held[number].Skills = append(slices.Clone(w.Skills), "behind", "till")[:len(w.Skills)]
	}
	return held
}

func skillsBehind(workers []impl.Worker) []string {
	var skills []string
	for _, w := range workers {
		skills = append(skills, w.Skills[:len(w.Skills)+2]...)
	}
	return skills
}

func TestP1NoShiftWorkerOrWhoIsChanged(t *testing.T) {
	wants := func(shifts []impl.Shift, workers []impl.Worker) {
		t.Helper()
		heldShifts := append(slices.Clone(shifts), shiftAt(77, 78, "behind"), shiftAt(1, 2, "till")) // what stands behind the end of the argument
		heldWorkers := withSkillsBehind(workers)
		beforeShifts, beforeWorkers, beforeSkills := slices.Clone(heldShifts), fmt.Sprint(heldWorkers), skillsBehind(heldWorkers)
		givenShifts, givenWorkers := heldShifts[:len(shifts)], heldWorkers[:len(workers)]
		for _, who := range oddWho() {
			heldWho := append(slices.Clone(who), 77, 78, 79)
			beforeWho := slices.Clone(heldWho)
			impl.RosterOf(givenShifts, givenWorkers, heldWho[:len(who)])
			if !slices.Equal(heldWho, beforeWho) {
				t.Fatalf("a list of who that was given is changed: %.200s", fmt.Sprint(heldWho))
			}
		}
		impl.ShiftsOK(givenShifts, givenWorkers)
		impl.BestRoster(givenShifts, givenWorkers)
		if !slices.Equal(heldShifts, beforeShifts) || fmt.Sprint(heldWorkers) != beforeWorkers || !slices.Equal(skillsBehind(heldWorkers), beforeSkills) {
			t.Fatalf("shifts or workers that were given are changed: %.200s, %.200s", fmt.Sprint(heldShifts), fmt.Sprint(heldWorkers))
		}
	}
	for _, shifts := range oddShifts() {
		wants(shifts, teaWorkers())
	}
	for _, workers := range oddWorkers() {
		wants(teaShifts(), workers)
	}
}

func sameAllBits(a, b []float64) bool { return slices.EqualFunc(a, b, sameBits) }

func TestP1NoTraceIsChanged(t *testing.T) {
	for _, trace := range oddTraces() {
		held := append(slices.Clone(trace), 77, minusNought(), math.NaN()) // what stands behind the end of the argument
		before, given := slices.Clone(held), held[:len(trace)]
		impl.WatchOf(given)
		impl.Alarms(given, 7, 3, 1)
		impl.Alarms(given, 7, 3, 2)
		impl.WarmMinutes(given, 0.5, 1.5)
		if !sameAllBits(held, before) {
			t.Fatalf("a trace that was given is changed: %.300s", fmt.Sprint(held))
		}
	}
}

func TestP1NoPowerIsChanged(t *testing.T) {
	held := func(powers []impl.Power) []impl.Power { // with what stands behind the end of the argument
		return append(slices.Clone(powers), powerAt(77, -78), powerAt(math.NaN(), minusNought()))
	}
	for _, powers := range oddPowers() {
		volts, amps := held(powers), held(manyPowers(len(powers)))
		impl.PowerOf(volts[:len(powers)], amps[:len(powers)])
		impl.PowerOf(amps[:len(powers)], volts[:len(powers)])
		impl.PowerOf(volts[:len(powers)], volts[:len(powers)])
		impl.Bridge(volts[:len(powers)])
		if !slices.EqualFunc(volts, held(powers), samePower) || !slices.EqualFunc(amps, held(manyPowers(len(powers))), samePower) {
			t.Fatalf("powers that were given are changed: %.300s, %.300s", fmt.Sprint(volts), fmt.Sprint(amps))
		}
	}
}

// withStockBehind makes sources whose Stock has entries behind its end.
func withStockBehind(sources []impl.Source) []impl.Source {
	held := append(slices.Clone(sources), sourceOf("behind", 7, stocked("a", 8)), sourceOf("hub", 0)) // what stands behind the end of the argument
	for number, source := range held {
		held[number].Stock = append(slices.Clone(source.Stock), stocked("behind", 9), stocked("a", 10))[:len(source.Stock)]
	}
	return held
}

func stockBehind(sources []impl.Source) []impl.Stocked {
	var stock []impl.Stocked
	for _, source := range sources {
		stock = append(stock, source.Stock[:len(source.Stock)+2]...)
	}
	return stock
}

func TestP1NoSourceOrWantedIsChanged(t *testing.T) {
	wants := func(sources []impl.Source, wanted []impl.Stocked) {
		t.Helper()
		heldSources := withStockBehind(sources)
		heldWanted := append(slices.Clone(wanted), stocked("behind", 77), stocked("a", 1))
		beforeSources, beforeStock, beforeWanted := fmt.Sprint(heldSources), stockBehind(heldSources), slices.Clone(heldWanted)
		givenSources, givenWanted := heldSources[:len(sources)], heldWanted[:len(wanted)]
		for _, from := range oddFrom() {
			heldFrom := append(slices.Clone(from), 77, 78, 79)
			beforeFrom := slices.Clone(heldFrom)
			impl.SourceOf(givenSources, givenWanted, heldFrom[:len(from)])
			if !slices.Equal(heldFrom, beforeFrom) {
				t.Fatalf("a From that was given is changed: %.200s", fmt.Sprint(heldFrom))
			}
		}
		impl.SourcesOK(givenSources, givenWanted)
		impl.BestSource(givenSources, givenWanted)
		if fmt.Sprint(heldSources) != beforeSources || !slices.Equal(stockBehind(heldSources), beforeStock) || !slices.Equal(heldWanted, beforeWanted) {
			t.Fatalf("sources or what is wanted that were given are changed: %.200s, %.200s", fmt.Sprint(heldSources), fmt.Sprint(heldWanted))
		}
	}
	for _, sources := range oddSources() {
		wants(sources, webWanted())
	}
	for _, wanted := range oddWanted() {
		wants(webSources(), wanted)
	}
	wants(fullSources(impl.MaxSources, impl.MaxKinds, 9), fullStock(impl.MaxWanted, 9))
}

func TestP1NoActOfCartsIsChanged(t *testing.T) {
	for _, acts := range oddCartActs() {
		held := append(slices.Clone(acts), cartHeld(7, 8, 9), minutesOn(77))
		before := slices.Clone(held)
		impl.CartRun(100, held[:len(acts)])
		if !slices.Equal(held, before) {
			t.Fatalf("acts that were given are changed: %.300s", fmt.Sprint(held))
		}
	}
}

// wantNewMemory writes over an answer's list, behind its end too; what was given must stay, and the next answer be as it was.
func wantNewMemory[T comparable](t *testing.T, what string, given []int, call func() ([]T, int), over T) {
	t.Helper()
	before := slices.Clone(given)
	first, code := call()
	want := slices.Clone(first)
	other, _ := call()
	if code != impl.OK || len(first) == 0 {
		t.Fatal(what, "tells nothing", code)
	}
	for i := range first[:cap(first)] {
		first[:cap(first)][i] = over
	}
	if !slices.Equal(given, before) {
		t.Errorf("%s: an answer shares memory with what was given: %v", what, given)
	}
	if !slices.Equal(other, want) {
		t.Errorf("%s: two answers share memory: %v", what, other)
	}
	if again, _ := call(); !slices.Equal(again, want) {
		t.Errorf("%s: an answer is kept: %v", what, again)
	}
}

func TestP1EachForecastIsNewMemory(t *testing.T) {
	f, table := weekSales(), []int{3, 1, 4, 1, 5}
	for _, count := range []int{1, len(f.list)} {
		sales := f.list[:count]
		for _, num := range []int{0, f.num, f.den} {
			wantNewMemory(t, "Smooth", f.list, func() ([]int, int) { return impl.Smooth(sales, num, f.den) }, -1)
		}
		wantNewMemory(t, "Seasons", f.list, func() ([]impl.Ratio, int) { return impl.Seasons(sales, min(f.n, count)) }, impl.Ratio{N: -1, D: -2})
	}
	for days := 1; days <= impl.MaxAhead; days++ {
		for count := 1; count <= len(table); count++ {
			wantNewMemory(t, "Odds", table, func() ([]int, int) { return impl.Odds(table[:count], days) }, -1)
		}
	}
}

func TestP1EachListOfOrdersIsNewMemory(t *testing.T) {
	loads := teaLoads()
	for _, truck := range []int{1, 10, 12, impl.MaxTruck} {
		for count := 1; count <= len(loads); count++ {
			wantNewMemory(t, "FillTrucks", nil, func() ([]int, int) {
				pallets, _, code := impl.FillTrucks(loads[:count], truck)
				return pallets, code
			}, -1)
		}
	}
	if !slices.Equal(loads, teaLoads()) {
		t.Error("FillTrucks: an answer shares memory with what was given", loads)
	}
	holidays := []int{1, 4, 8, 9, 20, 60}
	for _, week := range [][]bool{allWeek(), weekOf(0, 3)} {
		for count := range holidays {
			for _, to := range []int{4, 8, 30, 400} {
				wantNewMemory(t, "DeliveryDays", holidays, func() ([]int, int) { return impl.DeliveryDays(week, holidays[:count], 0, to) }, -1)
			}
		}
	}
}

func TestP1EachListOfPicksIsNewMemory(t *testing.T) {
	for _, all := range [][]impl.Spot{teaPicks(), edgeSpots(teaHall())[:impl.MaxPicks]} {
		for count := 1; count <= len(all); count++ {
			picks := slices.Clone(all[:count])
			wantNewMemory(t, "BestPath", nil, func() ([]int, int) {
				order, _, code := impl.BestPath(teaHall(), picks)
				return order, code
			}, -7)
			if !slices.Equal(picks, all[:count]) {
				t.Error("BestPath: an answer shares memory with what was given", picks)
			}
		}
	}
}

func TestP1EachSortLogIsNewMemory(t *testing.T) {
	lanes, parcels := teaLanes(), append(teaParcels(), 1, 1, 1)
	outOf := func() ([]int, int) {
		log, code := impl.SortRun(lanes, parcels)
		return log.Out, code
	}
	rejectedOf := func() ([]int, int) {
		log, code := impl.SortRun(lanes, parcels)
		return log.Rejected, code
	}
	wantNewMemory(t, "SortRun", parcels, outOf, -7)
	wantNewMemory(t, "SortRun", parcels, rejectedOf, -7)
	if !slices.Equal(lanes, teaLanes()) {
		t.Error("SortRun: an answer shares memory with what was given", lanes)
	}
	log, _ := impl.SortRun(lanes, parcels)
	want := slices.Clone(log.Rejected)
	for i := range log.Out[:cap(log.Out)] {
		log.Out[:cap(log.Out)][i] = -7
	}
	if !slices.Equal(log.Rejected, want) {
		t.Error("SortRun: two lists of one answer share memory", log)
	}
}

// routeCalls are of as many stops as there may be, and of fewer.
func routeCalls(stops []impl.Stop, order []int) map[string]func() (impl.Route, int) {
	return map[string]func() (impl.Route, int){
		"RouteOf":   func() (impl.Route, int) { return impl.RouteOf(stops, 3, order) },
		"BestRoute": func() (impl.Route, int) { return impl.BestRoute(stops, 3) },
	}
}

func TestP1EachRouteIsNewMemory(t *testing.T) {
	for count := 1; count <= impl.MaxStops; count++ {
		var stops []impl.Stop
		for place := range count {
			stops = append(stops, openAt(place*place, 3-place, place))
		}
		before, order := slices.Clone(stops), numbersUpTo(count)
		for what, call := range routeCalls(stops, order) {
			wantNewMemory(t, what, order, func() ([]int, int) {
				route, code := call()
				return route.Order, code
			}, -7)
			wantNewMemory(t, what, order, func() ([]int, int) {
				route, code := call()
				return route.Arrives, code
			}, -7)
			route, _ := call()
			want := slices.Clone(route.Arrives)
			for i := range route.Order[:cap(route.Order)] {
				route.Order[:cap(route.Order)][i] = -7
			}
			if !slices.Equal(route.Arrives, want) {
				t.Error(what+": two lists of one answer share memory", route)
			}
			if !slices.Equal(stops, before) {
				t.Error(what+": an answer shares memory with what was given", stops)
			}
		}
	}
}

func TestP1EachRosterIsNewMemory(t *testing.T) {
	for count := 1; count <= impl.MaxShifts; count++ {
		shifts, workers, who := apartShifts(count), freeWorkers(impl.MaxWorkers), alike(0, count)
		wantNewMemory(t, "RosterOf", who, func() ([]int, int) {
			roster, code, _ := impl.RosterOf(shifts, workers, who)
			return roster.Who, code
		}, -7)
		wantNewMemory(t, "BestRoster", who, func() ([]int, int) {
			roster, code := impl.BestRoster(shifts, workers)
			return roster.Who, code
		}, -7)
		if !slices.Equal(shifts, apartShifts(count)) || fmt.Sprint(workers) != fmt.Sprint(freeWorkers(impl.MaxWorkers)) {
			t.Error("an answer shares memory with what was given", shifts, workers)
		}
	}
}

func TestP1EachListOfAlarmsIsNewMemory(t *testing.T) {
	var trace []float64
	for len(trace) < impl.MaxTrace {
		trace = append(trace, 9, 1)
		for count := 1; count <= len(trace)/2; count *= 3 {
			before := slices.Clone(trace)
			wantNewMemory(t, "Alarms", nil, func() ([]impl.Alarm, int) { return impl.Alarms(trace[len(trace)-2*count:], 5, 4, 1) }, impl.Alarm{From: -7, To: -8})
			if !sameAllBits(trace, before) {
				t.Error("an answer shares memory with what was given", trace)
			}
		}
	}
}

func TestP1EachSendingIsNewMemory(t *testing.T) {
	for count := 1; count <= impl.MaxWanted; count++ {
		sources, wanted, from := fullSources(impl.MaxSources, impl.MaxKinds, 9), fullStock(count, 3), numbersUpTo(count)
		wantNewMemory(t, "SourceOf", from, func() ([]int, int) {
			sending, code := impl.SourceOf(sources, wanted, from)
			return sending.From, code
		}, -7)
		wantNewMemory(t, "BestSource", from, func() ([]int, int) {
			sending, code := impl.BestSource(sources, wanted)
			return sending.From, code
		}, -7)
		if !slices.Equal(wanted, fullStock(count, 3)) || fmt.Sprint(sources) != fmt.Sprint(fullSources(impl.MaxSources, impl.MaxKinds, 9)) {
			t.Error("an answer shares memory with what was given", sources, wanted)
		}
	}
}

func TestP1EachAnswerOfCartsIsNewMemory(t *testing.T) {
	given := mixedCartActs()
	for count := len(fourHolds()); count <= len(given); count++ {
		acts := given[:count]
		wantNewMemory(t, "CartRun", nil, func() ([]impl.CartObs, int) {
			told, _, code := impl.CartRun(100, acts)
			return told, code
		}, impl.CartObs{Code: -7, Free: -8})
		wantNewMemory(t, "CartRun", nil, func() ([]impl.CartHold, int) {
			_, carts, code := impl.CartRun(100, acts)
			return carts.Holds, code
		}, holdOf(-7, -8, -9))
	}
	if !slices.Equal(given, mixedCartActs()) {
		t.Error("an answer shares memory with what was given", given)
	}
}

// within: the two texts have memory in common.
func within(piece, text string) bool {
	if len(piece) == 0 || len(text) == 0 {
		return false
	}
	start, at := uintptr(unsafe.Pointer(unsafe.StringData(text))), uintptr(unsafe.Pointer(unsafe.StringData(piece)))
	return at < start+uintptr(len(text)) && start < at+uintptr(len(piece))
}

// spoilSegments writes into all that lists of parts have room for, and looks whether one wrote into another.
func spoilSegments(t *testing.T, list []impl.Segment) {
	t.Helper()
	over := func(i, at int) string { return fmt.Sprint("over ", i, " ", at) }
	for i := range list {
		room := list[i].Parts[:cap(list[i].Parts)]
		for at := range room {
			room[at] = over(i, at)
		}
	}
	for i := range list {
		for at, part := range list[i].Parts {
			if part != over(i, at) {
				t.Error("two lists of one answer share memory", list)
			}
		}
	}
	clear(list[:cap(list)])
}

func TestP1EachAnswerOfSegmentsIsNewMemory(t *testing.T) {
	given := append(supplierSegments(), segment("ABC", "+", "a", "??"), fullSegment("x"), fullSegment("'"))
	text, code := impl.SegmentsText(given)
	if code != impl.OK {
		t.Fatal("SegmentsText tells nothing", code)
	}
	for range 2 {
		other, _, _ := impl.ReadSegments(text)
		list, code, _ := impl.ReadSegments(text)
		if code != impl.OK || !sameSegments(list, given) {
			t.Fatal("an answer is kept", list, code)
		}
		for _, s := range list {
			for _, piece := range append(s.Parts, s.Tag) {
				if within(piece, text) {
					t.Errorf("ReadSegments hands out a piece of the text: %q", piece)
				}
			}
		}
		spoilSegments(t, list)
		if !sameSegments(other, given) {
			t.Fatal("two answers share memory", other)
		}
	}
	one := segmentsOf(segment("ABC"))
	if told, _ := impl.SegmentsText(one); within(one[0].Tag, told) {
		t.Error("SegmentsText hands out what it was given")
	}
}

func TestP1EachListOfVerdictsIsNewMemory(t *testing.T) {
	given := nordPapers()
	wantNewMemory(t, "ThreeWay", nil, given.match, verdict("over", -1))
	wantVerdicts(t, given, nordVerdicts(), impl.OK)
	for count := range 5 {
		some := papers{given[0][:count+1], given[1][:count], given[2][:min(count, 4)]}
		wantNewMemory(t, "ThreeWay", nil, some.match, verdict("over", -1))
		told, _ := some.match()
		for _, v := range told {
			for _, list := range some {
				for _, l := range list {
					if within(v.Article, l.Article) {
						t.Errorf("ThreeWay hands out a text that it was given: %q", v.Article)
					}
				}
			}
		}
	}
	for place, list := range given {
		if !slices.Equal(list, nordPapers()[place]) {
			t.Error("an answer shares memory", list)
		}
	}
}

func TestP1EachPlanOfMarksIsNewMemory(t *testing.T) {
	given, steps := cakes(), []int{0, 1, 1, 2}
	want, _ := cakes().markByWords(steps)
	best := cakes().bestBySearch()
	for range 2 {
		plan, code := given.mark(steps)
		if code != impl.OK || !sameMarks(plan, want) {
			t.Fatal("an answer is kept", plan, code)
		}
		other, code := given.best()
		if code != impl.OK || !sameMarks(other, best) {
			t.Fatal("an answer is kept", other, code)
		}
		lists := [][]int{plan.Steps, plan.Sold, other.Steps, other.Sold}
		for number, list := range lists { // each is written over, behind its end too
			for i := range list[:cap(list)] {
				list[:cap(list)][i] = -1 - number
			}
		}
		for number, list := range lists {
			if slices.ContainsFunc(list[:cap(list)], func(n int) bool { return n != -1-number }) {
				t.Error("two lists of a plan share memory", plan, other)
			}
		}
	}
	if !slices.Equal(steps, []int{0, 1, 1, 2}) || !reflect.DeepEqual(given, cakes()) {
		t.Error("an answer shares memory", steps, given)
	}
}

func TestP1EachAnswerOfStockIsNewMemory(t *testing.T) {
	given := mixedStockActs()
	wantTold, want := stockRunByWords(given)
	if len(want.Lots) != impl.MaxStock {
		t.Fatal("the acts leave other lots than they should", want)
	}
	for range 2 {
		told, stock, code := impl.StockRun(given)
		if code != impl.OK || !slices.Equal(told, wantTold) || !sameStock(stock, want) {
			t.Fatal("an answer is kept", told, stock, code)
		}
		for i, lot := range stock.Lots {
			if slices.ContainsFunc(given, func(act impl.StockAct) bool { return unsafe.StringData(act.Article) == unsafe.StringData(lot.Article) }) {
				t.Error("StockRun hands out a text that it was given", i)
			}
		}
		clear(told[:cap(told)])
		clear(stock.Lots[:cap(stock.Lots)])
	}
	if !slices.Equal(given, mixedStockActs()) {
		t.Error("an answer shares memory", given)
	}
}

func TestP1EachPlanIsNewMemory(t *testing.T) {
	given, counts := teaShelf(), []int{2, 2, 0, 4}
	want, _ := shelfByWords(teaShelf(), 130, []int{2, 2, 0, 4})
	best, _ := bestByAllCounts(teaShelf(), 130)
	for range 2 {
		plan, code := impl.ShelfOf(given, 130, counts)
		if code != impl.OK || !samePlan(plan, want) {
			t.Fatal("an answer is kept", plan, code)
		}
		other, code := impl.BestShelf(given, 130)
		if code != impl.OK || !samePlan(other, best) {
			t.Fatal("an answer is kept", other, code)
		}
		for _, list := range [][]int{plan.Counts, other.Counts} {
			all := list[:cap(list)]
			for i := range all {
				all[i] = -7
			}
		}
	}
	if !slices.Equal(counts, []int{2, 2, 0, 4}) || !reflect.DeepEqual(given, teaShelf()) {
		t.Error("an answer shares memory", counts, given)
	}
}

func TestP1EachMergeIsNewMemory(t *testing.T) {
	given, part := mixedLog(), mixedLog()[:6]
	for _, lists := range [][2][]impl.Event{{given, part}, {part, given}, {given, nil}, {nil, given}, {given, given}} {
		for range 2 {
			merged, code := impl.MergeEvents(lists[0], lists[1])
			if code != impl.OK || !slices.Equal(merged, mixedLog()) {
				t.Fatal("an answer is kept", merged, code)
			}
			for i, e := range merged {
				if slices.ContainsFunc(slices.Concat(given, part), func(g impl.Event) bool { return unsafe.StringData(g.Card) == unsafe.StringData(e.Card) }) {
					t.Error("MergeEvents hands out a text that it was given", i)
				}
			}
			clear(merged[:cap(merged)])
		}
	}
	if !slices.Equal(given, mixedLog()) || !slices.Equal(part, mixedLog()[:6]) {
		t.Error("an answer shares memory", given, part)
	}
}

func TestP1EachLedgerIsNewMemory(t *testing.T) {
	given, want := mixedLog(), ledgerByWords(mixedLog())
	for range 2 {
		ledger, code := impl.LedgerOf(given)
		if code != impl.OK || !sameLedger(ledger, want) {
			t.Fatal("an answer is kept", ledger, code)
		}
		texts := slices.Clone(ledger.Coupons)
		for _, c := range ledger.Cards {
			texts = append(texts, c.Name)
		}
		for _, text := range texts {
			if slices.ContainsFunc(given, func(e impl.Event) bool { return unsafe.StringData(e.Card) == unsafe.StringData(text) }) {
				t.Error("LedgerOf hands out a text that it was given", text)
			}
		}
		clear(ledger.Cards[:cap(ledger.Cards)])
		clear(ledger.Coupons[:cap(ledger.Coupons)])
		clear(ledger.Refused[:cap(ledger.Refused)])
	}
	if !slices.Equal(given, mixedLog()) {
		t.Error("an answer shares memory", given)
	}
}

func TestP1EachAnswerOfPaymentsIsNewMemory(t *testing.T) {
	given := mixedPayActs()
	wantCodes, want := payRunByWords(given)
	for range 2 {
		codes, payments, code := impl.PayRun(given)
		if code != impl.OK || !slices.Equal(codes, wantCodes) || !slices.Equal(payments, want) {
			t.Fatal("an answer is kept", codes, payments, code)
		}
		for i, p := range payments {
			if slices.ContainsFunc(given, func(act impl.PayAct) bool { return unsafe.StringData(act.Id) == unsafe.StringData(p.Id) }) {
				t.Error("PayRun hands out a text that it was given", i)
			}
		}
		clear(codes[:cap(codes)])
		clear(payments[:cap(payments)])
	}
	if !slices.Equal(given, mixedPayActs()) {
		t.Error("an answer shares memory", given)
	}
}

func TestP1EachMatchIsNewMemory(t *testing.T) {
	mine, bank := mixedSettled()
	want := matchByWords(mine, bank)
	if len(want.Pairs) != 3 || len(want.Mine) != 3 || len(want.Bank) != 2 {
		t.Fatal("the match leaves too little to share", want)
	}
	for range 2 {
		match, code := impl.Settle(mine, bank)
		if code != impl.OK || !sameMatch(match, want) {
			t.Fatal("an answer is kept", match, code)
		}
		lists := append(slices.Clone(match.Pairs), match.Mine, match.Bank)
		for number, list := range lists { // each is written over, behind its end too
			for i := range list[:cap(list)] {
				list[:cap(list)][i] = -1 - number
			}
		}
		for number, list := range lists {
			for _, place := range list[:cap(list)] {
				if place != -1-number {
					t.Error("two lists of a match share memory", match)
				}
			}
		}
		clear(match.Pairs[:cap(match.Pairs)])
	}
	mineAgain, bankAgain := mixedSettled()
	if !slices.Equal(mine, mineAgain) || !slices.Equal(bank, bankAgain) {
		t.Error("an answer shares memory", mine, bank)
	}
}

func TestP1EachJournalIsNewMemory(t *testing.T) {
	given, want := dayEvents(), chainByWords(dayEvents())
	for range 2 {
		chained, code := impl.Chain(given)
		if code != impl.OK || !slices.Equal(chained, want) {
			t.Fatal("an answer is kept", chained, code)
		}
		again, _ := impl.Chain(chained)
		read, code, _ := impl.ReadJournal(textByWords(want))
		if code != impl.OK || !slices.Equal(read, want) {
			t.Fatal("an answer is kept", read, code)
		}
		clear(chained[:cap(chained)])
		clear(read[:cap(read)])
		if !slices.Equal(again, want) {
			t.Fatal("an answer shares memory", again)
		}
	}
	if !slices.Equal(given, dayEvents()) {
		t.Error("an answer shares memory", given)
	}
}

// Texts of an answer do not hold on to the text that was read, nor to those that were given.
func TestP1EachTextOfAJournalIsNewMemory(t *testing.T) {
	given := chainByWords(dayEvents())
	text := textByWords(given)
	read, _, _ := impl.ReadJournal(text)
	chained, _ := impl.Chain(given)
	for i := range given {
		if len(given[i].Text) == 0 {
			continue
		}
		if unsafe.StringData(chained[i].Text) == unsafe.StringData(given[i].Text) {
			t.Error("Chain hands out a text that it was given", i)
		}
		start, at := uintptr(unsafe.Pointer(unsafe.StringData(text))), uintptr(unsafe.Pointer(unsafe.StringData(read[i].Text)))
		if at >= start && at < start+uintptr(len(text)) {
			t.Error("ReadJournal hands out a piece of the text", i)
		}
	}
}

func TestP1EachListOfChangeIsNewMemory(t *testing.T) {
	held := coinsOf([2]int{1, 1}, [2]int{7, 3}, [2]int{9, 2}, [2]int{30, 1})
	for range 2 {
		counts, code := impl.Change(25, held)
		if code != impl.OK || !slices.Equal(counts, []int{0, 1, 2, 0}) {
			t.Fatal("an answer is kept", counts, code)
		}
		counts = counts[:cap(counts)]
		for i := range counts {
			counts[i] = -1
		}
	}
	if !slices.Equal(held, coinsOf([2]int{1, 1}, [2]int{7, 3}, [2]int{9, 2}, [2]int{30, 1})) {
		t.Error("an answer shares memory", held)
	}
}

// spoilTill writes over each list of a till, behind its end too; none of the others may change.
func spoilTill(t *testing.T, till impl.Till) {
	t.Helper()
	lists := []*[]impl.Line{&till.Now.Lines}
	for i := range till.Kept {
		lists = append(lists, &till.Kept[i].Lines)
	}
	for number, list := range lists {
		*list = (*list)[:cap(*list)]
		for i := range *list {
			(*list)[i] = impl.Line{Item: -1 - number}
		}
	}
	for number, list := range lists {
		for _, line := range *list {
			if line.Item != -1-number {
				t.Error("two lists of a till share memory", till)
			}
		}
	}
	for _, basket := range till.Kept[len(till.Kept):cap(till.Kept)] {
		if len(basket.Lines) != 0 {
			t.Error("behind the kept baskets there is one more", basket)
		}
	}
	clear(till.Kept[:cap(till.Kept)])
	clear(till.Classes[:cap(till.Classes)])
}

func TestP1EachAnswerOfTillsIsNewMemory(t *testing.T) {
	items, acts := shopItems(), mixedTillActs()
	wantTold, wantTill := tillRunByWords(items, acts)
	if len(wantTill.Now.Lines) == 0 || len(wantTill.Kept) != 2 || wantTill.Sales != 2 {
		t.Fatal("the acts leave too little to share", wantTill)
	}
	for range 2 {
		told, till, code := impl.TillRun(items, acts)
		if code != impl.OK || !slices.Equal(told, wantTold) || !sameTill(till, wantTill) {
			t.Fatal("an answer is kept", told, till, code)
		}
		clear(told[:cap(told)])
		spoilTill(t, till)
	}
	if !slices.Equal(items, shopItems()) || !slices.Equal(acts, mixedTillActs()) {
		t.Error("an answer shares memory", items, acts)
	}
	r := fixed()
	for range 50 {
		_, till, _ := impl.TillRun(items, someTillActs(r, items, impl.MaxActs, 0, 20, 6, 3, 10, 6, 2))
		spoilTill(t, till)
	}
}

func TestP1EachAnswerOfPointsIsNewMemory(t *testing.T) {
	given := mixedActs()
	wantTold, wantAccount := runByWords(given)
	for range 2 {
		told, account, code := impl.PointsRun(given)
		if code != impl.OK || !slices.Equal(told, wantTold) || !sameAccount(account, wantAccount) {
			t.Fatal("an answer is kept", told, account, code)
		}
		clear(told[:cap(told)])
		clear(account.Lots[:cap(account.Lots)])
	}
	if !slices.Equal(given, mixedActs()) {
		t.Error("an answer shares memory", given)
	}
}

func TestP1EachAnswerOfRulesIsNewMemory(t *testing.T) {
	given := mixedRules()
	for range 2 {
		rules, code, line := impl.ReadRules(mixedRulesText())
		if code != impl.OK || line != 0 || !sameRules(rules, mixedRules()) {
			t.Fatal("an answer is kept", rules, code, line)
		}
		_, code, core := impl.Witness(given[2])
		if code != impl.ErrNone || !slices.Equal(core, []int{0, 2}) {
			t.Fatal("an answer is kept", core, code)
		}
		hidden, code := impl.Hidden(given)
		if code != impl.OK || !slices.Equal(hidden, []int{2, 4}) {
			t.Fatal("an answer is kept", hidden, code)
		}
		spoilRules(t, rules)
		clear(core[:cap(core)])
		clear(hidden[:cap(hidden)])
	}
	if !sameRules(given, mixedRules()) {
		t.Error("an answer shares memory", given)
	}
}

// spoilRules writes into all that lists of terms have room for, and looks whether one wrote into another.
func spoilRules(t *testing.T, rules []impl.Clause) {
	t.Helper()
	for i := range rules {
		room := rules[i].Terms[:cap(rules[i].Terms)]
		for at := range room {
			room[at] = term(i, at, -1)
		}
	}
	for i := range rules {
		for at, x := range rules[i].Terms {
			if x != term(i, at, -1) {
				t.Error("two lists of one answer share memory", rules)
			}
		}
	}
	clear(rules[:cap(rules)])
}

func TestP1EachBargainIsNewMemory(t *testing.T) {
	units, deals, uses := mixedBasket(), mixedDeals(), []impl.Use{useOf(0, 0, 2, 3), useOf(2, 1), useOf(1, 4, 5)}
	want, code := impl.Best(units, deals)
	if code != impl.OK || len(want.Uses) < 2 {
		t.Fatal("a bargain of several uses is asked for", want, code)
	}
	spoil := func(told impl.Bargain) {
		for i := range told.Uses {
			room := told.Uses[i].Units[:cap(told.Uses[i].Units)]
			for at := range room {
				room[at] = 1000*i + at
			}
		}
		for i := range told.Uses {
			for at, number := range told.Uses[i].Units {
				if number != 1000*i+at {
					t.Error("two lists of one answer share memory", told)
				}
			}
		}
		clear(told.Uses[:cap(told.Uses)])
	}
	for range 2 {
		best, code := impl.Best(units, deals)
		if code != impl.OK || best.Total != want.Total || len(best.Uses) != len(want.Uses) {
			t.Error("an answer is kept", best, code)
		}
		priced, code := impl.Priced(units, deals, uses)
		if code != impl.OK || !sameBargain(priced, impl.Bargain{Total: 635, Saved: 375, Uses: []impl.Use{saving(useOf(0, 0, 2, 3), 100), saving(useOf(2, 1), 125), saving(useOf(1, 4, 5), 150)}}) {
			t.Error("an answer is kept", priced, code)
		}
		spoil(best)
		spoil(priced)
	}
	if !slices.Equal(units, mixedBasket()) || !reflect.DeepEqual(deals, mixedDeals()) || !reflect.DeepEqual(uses, []impl.Use{useOf(0, 0, 2, 3), useOf(2, 1), useOf(1, 4, 5)}) {
		t.Error("an answer shares memory", units, deals, uses)
	}
}

func TestP1EachListOfStepsIsNewMemory(t *testing.T) {
	rows := labelRows()
	for range 2 {
		steps, code := impl.PriceSteps(rows, "milk", "north", 0, 10)
		if code != impl.OK || !slices.Equal(steps, stepsOf([2]int{0, -1}, [2]int{1, 120}, [2]int{2, 130}, [2]int{4, 99}, [2]int{5, 120}, [2]int{9, -1})) {
			t.Fatal("an answer is kept", steps, code)
		}
		clear(steps)
	}
	if !slices.Equal(rows, labelRows()) {
		t.Error("an answer shares memory", rows)
	}
}

func TestP1EachTaxBookIsNewMemory(t *testing.T) {
	rows, lines := bookRows(), []impl.TaxLine{{Class: 1, Gross: 119}, {Class: 2, Gross: 107}}
	for range 2 {
		book, code := impl.TaxBook(rows, "", 0, lines)
		if code != impl.OK || !slices.Equal(book, []impl.TaxSum{{Class: 1, Gross: 119, Net: 100, Tax: 19}, {Class: 2, Gross: 107, Net: 100, Tax: 7}}) {
			t.Fatal("an answer is kept", book, code)
		}
		clear(book)
	}
	if !slices.Equal(rows, bookRows()) || lines[0].Gross != 119 || lines[1].Gross != 107 {
		t.Error("an answer shares memory", rows, lines)
	}
}

func TestP1EachAnswerOfPacksIsNewMemory(t *testing.T) {
	packs := []impl.Pack{{Name: "six", Count: 6}, {Name: "tray", Of: "six", Count: 4}}
	for range 2 {
		sizes, _, _ := impl.PackUnits(packs)
		counts, _, _ := impl.Unpack(packs, 30)
		if !slices.Equal(sizes, []int{6, 24}) || !slices.Equal(counts, []int{1, 1}) {
			t.Fatal("an answer is kept", sizes, counts)
		}
		for i := range packs {
			sizes[i], counts[i] = -1, -1
		}
	}
}

func TestP1EachAnswerIsNewMemory(t *testing.T) {
	weights := []int{500, 300, 200}
	first, _ := impl.Share(1000, weights)
	second, _ := impl.Share(1000, weights)
	for i := range first {
		first[i] = -1
	}
	first = append(first[:0], 9, 9, 9)
	if !slices.Equal(weights, []int{500, 300, 200}) || !slices.Equal(second, []int{500, 300, 200}) {
		t.Error("an answer shares memory", weights, first, second)
	}
	third, code := impl.Share(1000, weights)
	if code != impl.OK || !slices.Equal(third, []int{500, 300, 200}) {
		t.Error("an answer is kept", third, code)
	}
}

// answers tells all that these calls say, in one text.
func answers(backwards bool) []string {
	var calls []func() string
	for _, n := range oddNumbers() {
		calls = append(calls, func() string { return fmt.Sprint(impl.CodeWord(n)) })
		calls = append(calls, func() string { return fmt.Sprint(impl.MoneyText(n)) })
		calls = append(calls, func() string { return fmt.Sprint(impl.Cash(n, 5)) })
		for _, mode := range []int{0, 1, 2, 3, 4, 5} {
			calls = append(calls, func() string { return fmt.Sprint(impl.Part(n, impl.Rate{N: 1, D: 2}, mode)) })
			calls = append(calls, func() string {
				return fmt.Sprint(impl.Exchange(n, impl.Rate{N: 1, D: 3}, impl.Rate{N: 2, D: 5}, mode))
			})
		}
		for _, list := range oddLists() {
			calls = append(calls, func() string { return fmt.Sprint(impl.Share(n, list)) })
		}
	}
	for _, text := range oddTexts() {
		calls = append(calls, func() string { return fmt.Sprint(impl.NameOK(text), impl.CodeOf(text)) })
		calls = append(calls, func() string { return fmt.Sprint(impl.ReadMoney(text)) })
		calls = append(calls, func() string { return fmt.Sprint(impl.CheckDigit(text)) })
		calls = append(calls, func() string { return fmt.Sprint(impl.ReadScan(text)) })
	}
	for _, scan := range oddScans() {
		calls = append(calls, func() string { return fmt.Sprint(impl.MakeScan(scan)) })
	}
	for _, packs := range oddPacks() {
		calls = append(calls, func() string { return fmt.Sprint(impl.PackUnits(packs)) })
		calls = append(calls, func() string { return fmt.Sprint(impl.Unpack(packs, 59)) })
	}
	for _, rows := range oddTaxRows() {
		calls = append(calls, func() string { return fmt.Sprint(impl.TaxRowsOK(rows)) })
		calls = append(calls, func() string { return fmt.Sprint(impl.TaxAt(rows, 1, "n", 3)) })
		calls = append(calls, func() string {
			return fmt.Sprint(impl.TaxBook(rows, "n", 3, []impl.TaxLine{{Class: 2, Gross: 53}, {Class: 1, Gross: 100}}))
		})
	}
	for _, lines := range oddTaxLines() {
		calls = append(calls, func() string { return fmt.Sprint(impl.TaxBook(bookRows(), "north", 10, lines)) })
	}
	for _, rows := range oddPriceRows() {
		calls = append(calls, func() string { return fmt.Sprint(impl.PricesOK(rows)) })
		calls = append(calls, func() string { return fmt.Sprint(impl.PriceAt(rows, "milk", "north", 3)) })
		calls = append(calls, func() string { return fmt.Sprint(impl.PriceSteps(rows, "milk", "north", 0, 10)) })
	}
	for _, n := range oddNumbers() {
		calls = append(calls, func() string { return fmt.Sprint(impl.PriceAt(labelRows(), "milk", "north", n)) })
		calls = append(calls, func() string { return fmt.Sprint(impl.PriceSteps(labelRows(), "milk", "north", n, 10)) })
		calls = append(calls, func() string { return fmt.Sprint(impl.ByWeight(n, 500)) })
		calls = append(calls, func() string { return fmt.Sprint(impl.ByWeight(999, n)) })
	}
	for _, units := range oddUnits() {
		calls = append(calls, func() string { return fmt.Sprint(impl.Best(units, mixedDeals())) })
	}
	for _, deals := range oddDeals() {
		calls = append(calls, func() string { return fmt.Sprint(impl.DealsOK(deals)) })
		calls = append(calls, func() string { return fmt.Sprint(impl.Best(mixedBasket(), deals)) })
		calls = append(calls, func() string { return fmt.Sprint(impl.Priced(mixedBasket(), deals, []impl.Use{useOf(0, 0)})) })
	}
	for _, uses := range [][]impl.Use{nil, {useOf(2, 1)}, {useOf(2, 1), useOf(2, 4)}, {useOf(3, 5, 6), useOf(0, 0, 2, 3), useOf(2, 1)}} {
		calls = append(calls, func() string { return fmt.Sprint(impl.Priced(mixedBasket(), mixedDeals(), uses)) })
	}
	for _, rules := range oddRules() {
		calls = append(calls, func() string { return fmt.Sprint(impl.ClausesOK(rules)) })
		calls = append(calls, func() string { return fmt.Sprint(impl.RulesText(rules)) })
		calls = append(calls, func() string { return fmt.Sprint(impl.Decide(rules, someFacts())) })
		calls = append(calls, func() string { return fmt.Sprint(impl.Hidden(rules)) })
		for _, rule := range rules[:min(len(rules), 2)] {
			calls = append(calls, func() string { return fmt.Sprint(impl.Witness(rule)) })
			calls = append(calls, func() string { return fmt.Sprint(impl.Clash(rule, mixedRules()[1])) })
		}
	}
	for _, f := range oddFacts() {
		calls = append(calls, func() string { return fmt.Sprint(impl.Decide(mixedRules(), f)) })
	}
	for _, text := range oddRuleTexts() {
		calls = append(calls, func() string { return fmt.Sprint(impl.ReadRules(text)) })
	}
	for _, acts := range oddActs() {
		calls = append(calls, func() string { return fmt.Sprint(impl.PointsRun(acts)) })
	}
	for _, acts := range oddTillActs() {
		calls = append(calls, func() string { return fmt.Sprint(impl.TillRun(shopItems(), acts)) })
	}
	for _, items := range oddItems() {
		calls = append(calls, func() string { return fmt.Sprint(impl.ItemsOK(items)) })
		calls = append(calls, func() string { return fmt.Sprint(impl.TillRun(items, mixedTillActs())) })
	}
	for _, held := range oddHeld() {
		calls = append(calls, func() string { return fmt.Sprint(impl.HeldOK(held)) })
		for _, due := range []int{0, 3, 21, 100} {
			calls = append(calls, func() string { return fmt.Sprint(impl.Change(due, held)) })
		}
	}
	for _, tenders := range oddTenders() {
		calls = append(calls, func() string { return fmt.Sprint(impl.PayMix(1000, tenders)) })
	}
	for _, list := range oddEntries() {
		calls = append(calls, func() string { return fmt.Sprint(impl.Chain(list)) })
		calls = append(calls, func() string { return fmt.Sprint(impl.CheckJournal(list)) })
		calls = append(calls, func() string { return fmt.Sprint(impl.JournalText(list)) })
		calls = append(calls, func() string { return fmt.Sprint(impl.Counted(list, 551)) })
	}
	for _, text := range oddJournalTexts() {
		calls = append(calls, func() string { return fmt.Sprint(impl.ReadJournal(text)) })
	}
	for _, acts := range oddPayActs() {
		calls = append(calls, func() string { return fmt.Sprint(impl.PayRun(acts)) })
	}
	for _, list := range oddSettled() {
		mine, bank := mixedSettled()
		calls = append(calls, func() string { return fmt.Sprint(impl.Settle(list, bank)) })
		calls = append(calls, func() string { return fmt.Sprint(impl.Settle(mine, list)) })
	}
	for _, list := range oddLogs() {
		calls = append(calls, func() string { return fmt.Sprint(impl.EventsOK(list)) })
		calls = append(calls, func() string { return fmt.Sprint(impl.MergeEvents(list, mixedLog())) })
		calls = append(calls, func() string { return fmt.Sprint(impl.MergeEvents(mixedLog(), list)) })
		calls = append(calls, func() string { return fmt.Sprint(impl.LedgerOf(list)) })
		calls = append(calls, func() string { return fmt.Sprint(impl.Missed(list, 1)) })
	}
	for _, list := range oddFacings() {
		calls = append(calls, func() string { return fmt.Sprint(impl.FacingsOK(list)) })
		calls = append(calls, func() string { return fmt.Sprint(impl.ShelfOf(list, 100, leastOf(list))) })
		calls = append(calls, func() string { return fmt.Sprint(impl.BestShelf(list, 100)) })
	}
	for _, counts := range oddLists() {
		calls = append(calls, func() string { return fmt.Sprint(impl.ShelfOf(manyFacings(3, 9, 0, 5, 0, 6), 20, counts)) })
	}
	for width := range 210 {
		calls = append(calls, func() string { return fmt.Sprint(impl.BestShelf(teaShelf(), width)) })
	}
	for _, acts := range oddStockActs() {
		calls = append(calls, func() string { return fmt.Sprint(impl.StockRun(acts)) })
	}
	for _, m := range oddMarks() {
		calls = append(calls, func() string { return fmt.Sprint(m.mark([]int{0, 1, 1, 2})) })
		calls = append(calls, func() string { return fmt.Sprint(m.best()) })
	}
	for stock := range 60 {
		calls = append(calls, func() string { return fmt.Sprint(impl.BestMarks(199, stock, cakes().percents, cakes().demand)) })
		calls = append(calls, func() string { return fmt.Sprint(fullMarks(stock).best()) })
	}
	for _, n := range oddNumbers() {
		calls = append(calls, func() string { return fmt.Sprint(impl.MarkPrice(n, 33)) })
		calls = append(calls, func() string { return fmt.Sprint(impl.MarkPrice(999, n)) })
	}
	for _, f := range oddForecasts() {
		calls = append(calls, func() string { return fmt.Sprint(impl.Smooth(f.list, f.num, f.den)) })
		calls = append(calls, func() string { return fmt.Sprint(impl.Seasons(f.list, f.n)) })
		calls = append(calls, func() string { return fmt.Sprint(impl.Odds(f.list, f.n)) })
		calls = append(calls, func() string { return fmt.Sprint(impl.SafeLevel(f.list, f.n, f.num, f.den)) })
	}
	for _, n := range oddNeeds() {
		calls = append(calls, func() string { return fmt.Sprint(impl.NeedOK(n)) })
		calls = append(calls, func() string { return fmt.Sprint(impl.OrderFor(n)) })
	}
	for _, loads := range oddLoads() {
		for _, truck := range []int{0, 1, 10, impl.MaxTruck} {
			calls = append(calls, func() string { return fmt.Sprint(impl.FillTrucks(loads, truck)) })
		}
	}
	for _, holidays := range oddHolidays() {
		calls = append(calls, func() string { return fmt.Sprint(impl.NextDay(weekOf(0, 3), holidays, 5)) })
		calls = append(calls, func() string { return fmt.Sprint(impl.DeliveryDays(weekOf(0, 3), holidays, 5, 405)) })
	}
	for _, week := range oddWeeks() {
		calls = append(calls, func() string { return fmt.Sprint(impl.NextDay(week, []int{3, 7}, 3)) })
		calls = append(calls, func() string { return fmt.Sprint(impl.DeliveryDays(week, []int{3, 7}, 0, 30)) })
	}
	for _, c := range oddStretches() {
		calls = append(calls, func() string { return fmt.Sprint(impl.NextDay(weekOf(0, 3), []int{3, 7}, c[0])) })
		calls = append(calls, func() string { return fmt.Sprint(impl.DeliveryDays(weekOf(0, 3), []int{3, 7}, c[0], c[1])) })
	}
	for _, list := range oddSegments() {
		calls = append(calls, func() string { return fmt.Sprint(impl.SegmentsText(list)) })
	}
	for _, text := range oddSegmentTexts() {
		calls = append(calls, func() string { return fmt.Sprint(impl.ReadSegments(text)) })
	}
	for _, list := range oddDocs() {
		for place := range 3 {
			calls = append(calls, func() string { return fmt.Sprint(nordPapers().with(place, list).match()) })
		}
		calls = append(calls, func() string { return fmt.Sprint(papers{list, list, list}.match()) })
	}
	for _, rungs := range oddRungs() {
		for _, turnover := range []int{-1, 0, 5, 12345, impl.MaxMoney} {
			calls = append(calls, func() string { return fmt.Sprint(impl.BonusOf(rungs, turnover)) })
		}
	}
	for _, h := range oddHalls() {
		calls = append(calls, func() string { return fmt.Sprint(impl.Between(h, spot(0, 1), spot(1, 0))) })
		calls = append(calls, func() string { return fmt.Sprint(impl.PathLength(h, teaPicks(), []int{2, 0, 1})) })
		calls = append(calls, func() string { return fmt.Sprint(impl.BestPath(h, teaPicks())) })
	}
	for _, s := range oddSpots() {
		calls = append(calls, func() string { return fmt.Sprint(impl.Between(teaHall(), s, spot(1, 0))) })
	}
	for _, picks := range oddPicks() {
		calls = append(calls, func() string { return fmt.Sprint(impl.PathLength(teaHall(), picks, []int{0, 1, 3, 2})) })
		calls = append(calls, func() string { return fmt.Sprint(impl.BestPath(teaHall(), picks)) })
	}
	for _, lanes := range oddLanes() {
		calls = append(calls, func() string { return fmt.Sprint(impl.SortRun(lanes, teaParcels())) })
	}
	for _, parcels := range oddParcels() {
		calls = append(calls, func() string { return fmt.Sprint(impl.PathLength(teaHall(), teaPicks(), parcels)) })
		calls = append(calls, func() string { return fmt.Sprint(impl.SortRun(teaLanes(), parcels)) })
	}
	for _, stops := range oddStops() {
		calls = append(calls, func() string { return fmt.Sprint(impl.StopsOK(stops)) })
		calls = append(calls, func() string { return fmt.Sprint(impl.RouteOf(stops, 3, []int{1, 0, 2})) })
		calls = append(calls, func() string { return fmt.Sprint(impl.BestRoute(stops, 3)) })
		calls = append(calls, func() string { return fmt.Sprint(impl.LeastEnd(stops, 3)) })
	}
	for _, begin := range oddBegins() {
		calls = append(calls, func() string { return fmt.Sprint(impl.RouteOf(teaStops(), begin, []int{1, 0})) })
		calls = append(calls, func() string { return fmt.Sprint(impl.BestRoute(teaStops(), begin)) })
		calls = append(calls, func() string { return fmt.Sprint(impl.LeastEnd(teaStops(), begin)) })
	}
	for _, order := range oddOrders() {
		calls = append(calls, func() string { return fmt.Sprint(impl.RouteOf(teaStops(), 0, order)) })
	}
	for _, shifts := range oddShifts() {
		calls = append(calls, func() string { return fmt.Sprint(impl.ShiftsOK(shifts, teaWorkers())) })
		calls = append(calls, func() string { return fmt.Sprint(impl.RosterOf(shifts, teaWorkers(), []int{0, 1, 1})) })
		calls = append(calls, func() string { return fmt.Sprint(impl.BestRoster(shifts, freeWorkers(3))) })
	}
	for _, workers := range oddWorkers() {
		calls = append(calls, func() string { return fmt.Sprint(impl.ShiftsOK(teaShifts(), workers)) })
		calls = append(calls, func() string { return fmt.Sprint(impl.RosterOf(teaShifts(), workers, []int{0, 1, 1})) })
		calls = append(calls, func() string { return fmt.Sprint(impl.BestRoster(teaShifts(), workers)) })
	}
	for _, who := range oddWho() {
		calls = append(calls, func() string { return fmt.Sprint(impl.RosterOf(teaShifts(), teaWorkers(), who)) })
	}
	for _, trace := range oddTraces() {
		calls = append(calls, func() string { return fmt.Sprint(impl.WatchOf(trace)) })
		calls = append(calls, func() string { return fmt.Sprint(impl.Alarms(trace, 7, 3, 2)) })
		calls = append(calls, func() string { return fmt.Sprint(impl.WarmMinutes(trace, 0.1, 1.1)) })
	}
	for _, number := range oddFloats() {
		calls = append(calls, func() string { return fmt.Sprint(impl.Alarms(rightTraces()[12], number, 3, 1)) })
		calls = append(calls, func() string { return fmt.Sprint(impl.Alarms(rightTraces()[12], 7, number, 1)) })
		calls = append(calls, func() string { return fmt.Sprint(impl.WarmMinutes(rightTraces()[12], number, 1.1)) })
		calls = append(calls, func() string { return fmt.Sprint(impl.WarmMinutes(rightTraces()[12], 5.3, float32(number))) })
	}
	for _, hold := range oddNumbers() {
		calls = append(calls, func() string { return fmt.Sprint(impl.Alarms(rightTraces()[12], 7.5, 5, hold)) })
	}
	for _, powers := range oddPowers() {
		calls = append(calls, func() string { return fmt.Sprint(impl.PowerOf(powers, manyPowers(1))) })
		calls = append(calls, func() string { return fmt.Sprint(impl.PowerOf(manyPowers(2), powers)) })
		calls = append(calls, func() string { return fmt.Sprint(impl.Bridge(powers)) })
	}
	for _, sources := range oddSources() {
		calls = append(calls, func() string { return fmt.Sprint(impl.SourcesOK(sources, webWanted())) })
		calls = append(calls, func() string { return fmt.Sprint(impl.SourceOf(sources, webWanted(), []int{0, 0})) })
		calls = append(calls, func() string { return fmt.Sprint(impl.BestSource(sources, webWanted())) })
	}
	for _, wanted := range oddWanted() {
		calls = append(calls, func() string { return fmt.Sprint(impl.SourcesOK(webSources(), wanted)) })
		calls = append(calls, func() string { return fmt.Sprint(impl.SourceOf(webSources(), wanted, []int{1, 2})) })
		calls = append(calls, func() string { return fmt.Sprint(impl.BestSource(webSources(), wanted)) })
	}
	for _, from := range oddFrom() {
		calls = append(calls, func() string { return fmt.Sprint(impl.SourceOf(webSources(), webWanted(), from)) })
	}
	for _, acts := range oddCartActs() {
		calls = append(calls, func() string { return fmt.Sprint(impl.CartRun(100, acts)) })
	}
	for _, units := range oddStocks() {
		calls = append(calls, func() string { return fmt.Sprint(impl.CartRun(units, mixedCartActs())) })
	}
	for _, rate := range oddRates() {
		calls = append(calls, func() string { return fmt.Sprint(impl.RateOK(rate)) })
		calls = append(calls, func() string { return fmt.Sprint(impl.Split(-1235, rate)) })
	}
	said := make([]string, len(calls))
	for i := range calls {
		if backwards {
			i = len(calls) - 1 - i
		}
		said[i] = calls[i]()
	}
	return said
}

func TestP1AlikeArgumentsHaveAlikeAnswers(t *testing.T) {
	want := answers(false)
	if !slices.Equal(answers(true), want) {
		t.Error("answers hang on what was called ahead")
	}
	var wait sync.WaitGroup
	for range 4 {
		wait.Go(func() {
			if !slices.Equal(answers(false), want) {
				t.Error("answers hang on what runs beside")
			}
		})
	}
	wait.Wait()
}

func TestP1AnEmptyListAndNilAreTheSame(t *testing.T) {
	for _, amount := range oddNumbers() {
		n, leftN, codeN := impl.Unpack(nil, amount)
		e, leftE, codeE := impl.Unpack([]impl.Pack{}, amount)
		if len(n) != 0 || len(e) != 0 || leftN != leftE || codeN != codeE {
			t.Errorf("Unpack of %d: %v, %d, %d of nil; %v, %d, %d of an empty list", amount, n, leftN, codeN, e, leftE, codeE)
		}
		a, codeA := impl.Share(amount, nil)
		b, codeB := impl.Share(amount, []int{})
		if len(a) != 0 || len(b) != 0 || codeA != codeB {
			t.Errorf("Share(%d): %v, %d of nil; %v, %d of an empty list", amount, a, codeA, b, codeB)
		}
	}
}

func TestP1NoTaxRowsAndNilAreTheSame(t *testing.T) {
	if !impl.TaxRowsOK(nil) || !impl.TaxRowsOK([]impl.TaxRow{}) {
		t.Error("no rows are right rows")
	}
	for _, lines := range oddTaxLines() {
		n, codeN := impl.TaxBook(nil, "", 0, lines)
		e, codeE := impl.TaxBook([]impl.TaxRow{}, "", 0, lines)
		if len(n) != 0 || len(e) != 0 || codeN != codeE {
			t.Errorf("TaxBook: %v, %d of nil; %v, %d of an empty list", n, codeN, e, codeE)
		}
	}
	for _, rows := range oddTaxRows() {
		n, codeN := impl.TaxBook(rows, "", 0, nil)
		e, codeE := impl.TaxBook(rows, "", 0, []impl.TaxLine{})
		if len(n) != 0 || len(e) != 0 || codeN != codeE {
			t.Errorf("TaxBook: %v, %d of nil; %v, %d of no lines", n, codeN, e, codeE)
		}
	}
}

func TestP1NoPriceRowsAndNilAreTheSame(t *testing.T) {
	if !impl.PricesOK(nil) || !impl.PricesOK([]impl.PriceRow{}) {
		t.Error("no rows are right rows")
	}
	for _, n := range oddNumbers() {
		amountN, rowN, codeN := impl.PriceAt(nil, "milk", "", n)
		amountE, rowE, codeE := impl.PriceAt([]impl.PriceRow{}, "milk", "", n)
		if amountN != amountE || rowN != rowE || codeN != codeE {
			t.Errorf("PriceAt at %d: %d, %d, %d of nil; %d, %d, %d of an empty list", n, amountN, rowN, codeN, amountE, rowE, codeE)
		}
		nils, codeN := impl.PriceSteps(nil, "milk", "", n, 10)
		empties, codeE := impl.PriceSteps([]impl.PriceRow{}, "milk", "", n, 10)
		if !slices.Equal(nils, empties) || codeN != codeE {
			t.Errorf("PriceSteps from %d: %v, %d of nil; %v, %d of an empty list", n, nils, codeN, empties, codeE)
		}
	}
}

func TestP1NoDealsUnitsOrUsesAndNilAreTheSame(t *testing.T) {
	if !impl.DealsOK(nil) || !impl.DealsOK([]impl.Deal{}) {
		t.Error("no deals are right deals")
	}
	for _, deals := range oddDeals() {
		n, codeN := impl.Best(nil, deals)
		e, codeE := impl.Best([]impl.Unit{}, deals)
		if !sameBargain(n, e) || codeN != codeE {
			t.Errorf("Best: %v, %d of nil; %v, %d of no units", n, codeN, e, codeE)
		}
		n, codeN = impl.Priced(mixedBasket(), deals, nil)
		e, codeE = impl.Priced(mixedBasket(), deals, []impl.Use{})
		if !sameBargain(n, e) || codeN != codeE {
			t.Errorf("Priced: %v, %d of nil; %v, %d of no uses", n, codeN, e, codeE)
		}
	}
	for _, units := range oddUnits() {
		n, codeN := impl.Best(units, nil)
		e, codeE := impl.Best(units, []impl.Deal{})
		if !sameBargain(n, e) || codeN != codeE {
			t.Errorf("Best: %v, %d of nil; %v, %d of no deals", n, codeN, e, codeE)
		}
	}
	if _, code := impl.Priced(mixedBasket(), mixedDeals(), []impl.Use{{Deal: 2, Units: []int{}}}); code != impl.ErrForm {
		t.Error("Priced of a use with an empty list", code)
	}
}

func TestP1NoRulesOrTermsAndNilAreTheSame(t *testing.T) {
	if !impl.ClausesOK(nil) || !impl.ClausesOK([]impl.Clause{}) {
		t.Error("no rules are right rules")
	}
	for _, f := range oddFacts() {
		n, codeN := impl.Decide(nil, f)
		e, codeE := impl.Decide([]impl.Clause{}, f)
		if n != e || codeN != codeE {
			t.Errorf("Decide: %d, %d of nil; %d, %d of no rules", n, codeN, e, codeE)
		}
	}
	none, empty := impl.Clause{Name: "a", Act: impl.AcDeny}, impl.Clause{Name: "a", Terms: []impl.Term{}, Act: impl.AcDeny}
	textN, codeN := impl.RulesText([]impl.Clause{none})
	textE, codeE := impl.RulesText([]impl.Clause{empty})
	if textN != textE || codeN != codeE {
		t.Errorf("RulesText: %q, %d of nil; %q, %d of no terms", textN, codeN, textE, codeE)
	}
	factsN, codeN, _ := impl.Witness(none)
	factsE, codeE, _ := impl.Witness(empty)
	if factsN != factsE || codeN != codeE {
		t.Errorf("Witness: %v, %d of nil; %v, %d of no terms", factsN, codeN, factsE, codeE)
	}
	for _, other := range mixedRules() {
		factsN, isN, codeN := impl.Clash(none, other)
		factsE, isE, codeE := impl.Clash(empty, other)
		if factsN != factsE || isN != isE || codeN != codeE {
			t.Errorf("Clash with %v: %v, %v, %d of nil; %v, %v, %d of no terms", other, factsN, isN, codeN, factsE, isE, codeE)
		}
	}
}

func TestP1NoActsOfPointsAndNilAreTheSame(t *testing.T) {
	toldN, accountN, codeN := impl.PointsRun(nil)
	toldE, accountE, codeE := impl.PointsRun([]impl.PointAct{})
	if len(toldN) != 0 || len(toldE) != 0 || !sameAccount(accountN, accountE) || codeN != codeE {
		t.Errorf("PointsRun: %v, %v, %d of nil; %v, %v, %d of no acts", toldN, accountN, codeN, toldE, accountE, codeE)
	}
}

func TestP1NoItemsOrActsOfATillAndNilAreTheSame(t *testing.T) {
	if !impl.ItemsOK(nil) || !impl.ItemsOK([]impl.Item{}) {
		t.Error("no items are right items")
	}
	for _, acts := range oddTillActs() {
		toldN, tillN, codeN := impl.TillRun(nil, acts)
		toldE, tillE, codeE := impl.TillRun([]impl.Item{}, acts)
		if !slices.Equal(toldN, toldE) || !sameTill(tillN, tillE) || codeN != codeE {
			t.Errorf("TillRun: %v, %v, %d of nil; %v, %v, %d of no items", toldN, tillN, codeN, toldE, tillE, codeE)
		}
	}
	for _, items := range oddItems() {
		toldN, tillN, codeN := impl.TillRun(items, nil)
		toldE, tillE, codeE := impl.TillRun(items, []impl.TillAct{})
		if len(toldN) != 0 || len(toldE) != 0 || !sameTill(tillN, tillE) || codeN != codeE {
			t.Errorf("TillRun: %v, %v, %d of nil; %v, %v, %d of no acts", toldN, tillN, codeN, toldE, tillE, codeE)
		}
	}
}

func TestP1NoCoinsOrTendersAndNilAreTheSame(t *testing.T) {
	if !impl.HeldOK(nil) || !impl.HeldOK([]impl.Coins{}) {
		t.Error("no coins are right coins")
	}
	for _, n := range oddNumbers() {
		countsN, codeN := impl.Change(n, nil)
		countsE, codeE := impl.Change(n, []impl.Coins{})
		if len(countsN) != 0 || len(countsE) != 0 || codeN != codeE {
			t.Errorf("Change(%d): %v, %d of nil; %v, %d of no coins", n, countsN, codeN, countsE, codeE)
		}
		paidN, codeN := impl.PayMix(n, nil)
		paidE, codeE := impl.PayMix(n, []impl.Tender{})
		if paidN != paidE || codeN != codeE {
			t.Errorf("PayMix(%d): %v, %d of nil; %v, %d of no tenders", n, paidN, codeN, paidE, codeE)
		}
	}
}

func TestP1NoEntriesAndNilAreTheSame(t *testing.T) {
	chainedN, codeN := impl.Chain(nil)
	chainedE, codeE := impl.Chain([]impl.Entry{})
	if len(chainedN) != 0 || len(chainedE) != 0 || codeN != codeE {
		t.Errorf("Chain: %v, %d of nil; %v, %d of no entries", chainedN, codeN, chainedE, codeE)
	}
	codeN, placeN := impl.CheckJournal(nil)
	codeE, placeE := impl.CheckJournal([]impl.Entry{})
	if codeN != codeE || placeN != placeE {
		t.Errorf("CheckJournal: %d, %d of nil; %d, %d of no entries", codeN, placeN, codeE, placeE)
	}
	textN, codeN := impl.JournalText(nil)
	textE, codeE := impl.JournalText([]impl.Entry{})
	if textN != textE || codeN != codeE {
		t.Errorf("JournalText: %q, %d of nil; %q, %d of no entries", textN, codeN, textE, codeE)
	}
	for _, counted := range oddNumbers() {
		offN, codeN := impl.Counted(nil, counted)
		offE, codeE := impl.Counted([]impl.Entry{}, counted)
		if offN != offE || codeN != codeE {
			t.Errorf("Counted(%d): %d, %d of nil; %d, %d of no entries", counted, offN, codeN, offE, codeE)
		}
	}
}

func TestP1NoActsOfPaymentsOrSettledEntriesAndNilAreTheSame(t *testing.T) {
	codesN, paymentsN, codeN := impl.PayRun(nil)
	codesE, paymentsE, codeE := impl.PayRun([]impl.PayAct{})
	if len(codesN) != 0 || len(codesE) != 0 || len(paymentsN) != 0 || len(paymentsE) != 0 || codeN != codeE {
		t.Errorf("PayRun: %v, %v, %d of nil; %v, %v, %d of no acts", codesN, paymentsN, codeN, codesE, paymentsE, codeE)
	}
	for _, list := range oddSettled() {
		matchN, codeN := impl.Settle(nil, list)
		matchE, codeE := impl.Settle([]impl.Settled{}, list)
		if !sameMatch(matchN, matchE) || codeN != codeE {
			t.Errorf("Settle: %+v, %d of nil; %+v, %d of none", matchN, codeN, matchE, codeE)
		}
		matchN, codeN = impl.Settle(list, nil)
		matchE, codeE = impl.Settle(list, []impl.Settled{})
		if !sameMatch(matchN, matchE) || codeN != codeE {
			t.Errorf("Settle: %+v, %d of nil; %+v, %d of none", matchN, codeN, matchE, codeE)
		}
	}
}

func TestP1NoEventsAndNilAreTheSame(t *testing.T) {
	if !impl.EventsOK(nil) || !impl.EventsOK([]impl.Event{}) {
		t.Error("no events are a right list")
	}
	for _, list := range oddLogs() {
		mergedN, codeN := impl.MergeEvents(nil, list)
		mergedE, codeE := impl.MergeEvents([]impl.Event{}, list)
		if !slices.Equal(mergedN, mergedE) || codeN != codeE {
			t.Errorf("MergeEvents: %.300v, %d of nil; %.300v, %d of none", mergedN, codeN, mergedE, codeE)
		}
		mergedN, codeN = impl.MergeEvents(list, nil)
		mergedE, codeE = impl.MergeEvents(list, []impl.Event{})
		if !slices.Equal(mergedN, mergedE) || codeN != codeE {
			t.Errorf("MergeEvents: %.300v, %d of nil; %.300v, %d of none", mergedN, codeN, mergedE, codeE)
		}
	}
	ledgerN, codeN := impl.LedgerOf(nil)
	ledgerE, codeE := impl.LedgerOf([]impl.Event{})
	if !sameLedger(ledgerN, ledgerE) || codeN != codeE {
		t.Errorf("LedgerOf: %+v, %d of nil; %+v, %d of none", ledgerN, codeN, ledgerE, codeE)
	}
	for _, shop := range oddNumbers() {
		seqN, codeN := impl.Missed(nil, shop)
		seqE, codeE := impl.Missed([]impl.Event{}, shop)
		if seqN != seqE || codeN != codeE {
			t.Errorf("Missed(%d): %d, %d of nil; %d, %d of none", shop, seqN, codeN, seqE, codeE)
		}
	}
}

func TestP1NoFacingsOrCountsAndNilAreTheSame(t *testing.T) {
	if !impl.FacingsOK(nil) || !impl.FacingsOK([]impl.Facing{}) {
		t.Error("no facings are right facings")
	}
	if impl.FacingsOK(facingsOf(impl.Facing{Name: "a", Width: 1})) || impl.FacingsOK(facingsOf(impl.Facing{Name: "a", Width: 1, Gains: []int{}})) {
		t.Error("a facing without Gains is wrong")
	}
	for _, width := range append(oddNumbers(), impl.MaxWidth) {
		planN, codeN := impl.BestShelf(nil, width)
		planE, codeE := impl.BestShelf([]impl.Facing{}, width)
		if !samePlan(planN, planE) || codeN != codeE {
			t.Errorf("BestShelf(%d): %v, %d of nil; %v, %d of none", width, planN, codeN, planE, codeE)
		}
		for _, list := range [][]impl.Facing{nil, {}, teaShelf()} {
			planN, codeN = impl.ShelfOf(list, width, nil)
			planE, codeE = impl.ShelfOf(list, width, []int{})
			if !samePlan(planN, planE) || codeN != codeE {
				t.Errorf("ShelfOf(%d): %v, %d of nil; %v, %d of no counts", width, planN, codeN, planE, codeE)
			}
		}
	}
}

func TestP1NoActsOfStockAndNilAreTheSame(t *testing.T) {
	toldN, stockN, codeN := impl.StockRun(nil)
	toldE, stockE, codeE := impl.StockRun([]impl.StockAct{})
	if len(toldN) != 0 || len(toldE) != 0 || !sameStock(stockN, stockE) || codeN != codeE {
		t.Errorf("StockRun: %v, %+v, %d of nil; %v, %+v, %d of no acts", toldN, stockN, codeN, toldE, stockE, codeE)
	}
}

func TestP1NoPercentsDaysOrStepsAndNilAreTheSame(t *testing.T) {
	for _, m := range []markdown{cakes(), {}, {price: 5, stock: 5}} {
		for _, change := range [][2]func(m *markdown){
			{func(m *markdown) { m.percents = nil }, func(m *markdown) { m.percents = []int{} }},
			{func(m *markdown) { m.demand = nil }, func(m *markdown) { m.demand = [][]int{} }},
			{func(m *markdown) { m.demand = make([][]int, 2) }, func(m *markdown) { m.demand = [][]int{{}, {}} }},
			{func(m *markdown) { m.percents, m.demand = nil, make([][]int, 2) }, func(m *markdown) { m.percents, m.demand = []int{}, [][]int{{}, {}} }},
		} {
			of, empty := m.with(change[0]), m.with(change[1])
			wantNoBest(t, "nil", of, impl.ErrBad)
			wantNoBest(t, "an empty list", empty, impl.ErrBad)
			for _, steps := range [][]int{nil, {}, {0, 0}} {
				wantNoMarks(t, "nil", of, steps, impl.ErrBad)
				wantNoMarks(t, "an empty list", empty, steps, impl.ErrBad)
			}
		}
	}
	wantNoMarks(t, "nil", cakes(), nil, impl.ErrForm)
	wantNoMarks(t, "no steps", cakes(), []int{}, impl.ErrForm)
}

func TestP1NoSalesOrTableAndNilAreTheSame(t *testing.T) {
	for _, n := range append(oddNumbers(), impl.MaxPhase+1, impl.MaxAhead+1) {
		for _, den := range []int{0, 1, n, 1000} {
			wantSmoothByWords(t, nil, n, den)
			wantSmoothByWords(t, []int{}, n, den)
			wantNotSafe(t, nil, n, 1, den, impl.ErrBad)
			wantNotSafe(t, []int{}, n, 1, den, impl.ErrBad)
		}
		wantSeasonsByWords(t, nil, n)
		wantSeasonsByWords(t, []int{}, n)
		wantCases(t, nil, n, nil, impl.ErrBad)
		wantCases(t, []int{}, n, nil, impl.ErrBad)
	}
}

func TestP1NoLoadsWeekOrHolidaysAndNilAreTheSame(t *testing.T) {
	for _, truck := range append(oddNumbers(), impl.MaxTruck) {
		wantTrucksByWords(t, nil, truck)
		wantTrucksByWords(t, []impl.Load{}, truck)
	}
	for _, n := range append(oddNumbers(), impl.MaxDay, impl.MaxDay+1) {
		for _, week := range slices.Concat(rightWeeks(), wrongWeeks()) {
			wantNextByWords(t, week, nil, n)
			wantNextByWords(t, week, []int{}, n)
			wantDeliveriesByWords(t, week, nil, n, 400)
			wantDeliveriesByWords(t, week, []int{}, n, 400)
		}
		for _, week := range [][]bool{nil, {}} {
			wantNoNext(t, week, []int{3}, n, impl.ErrBad)
			wantNoDeliveries(t, week, []int{3}, 0, n, impl.ErrBad)
		}
	}
}

func TestP1NoSegmentsOrPartsAndNilAreTheSame(t *testing.T) {
	wantSegmentsText(t, nil, "", impl.OK)
	wantSegmentsText(t, []impl.Segment{}, "", impl.OK)
	wantSegmentsText(t, segmentsOf(impl.Segment{Tag: "ABC"}, impl.Segment{Tag: "DEF", Parts: []string{}}), "ABC'DEF'", impl.OK)
	wantSegments(t, "", nil)
	wantSegments(t, "ABC'DEF'", segmentsOf(impl.Segment{Tag: "ABC", Parts: []string{}}, impl.Segment{Tag: "DEF"}))
}

func TestP1NoDocLinesOrRungsAndNilAreTheSame(t *testing.T) {
	empty := []impl.DocLine{}
	wantVerdicts(t, papers{empty, empty, empty}, nil, impl.OK)
	wantVerdicts(t, papers{}, nil, impl.OK)
	for place := range 3 {
		for _, list := range slices.Concat(rightDocs(), wrongDocs()) {
			want, code := papers{}.with(place, list).match()
			wantVerdicts(t, papers{empty, empty, empty}.with(place, list), want, code)
			want, code = nordPapers().with(place, nil).with((place+1)%3, list).match()
			wantVerdicts(t, nordPapers().with(place, empty).with((place+1)%3, list), want, code)
		}
	}
	for _, turnover := range append(oddNumbers(), turnoversOutOfRange()...) {
		wantBonusByWords(t, nil, turnover)
		wantBonusByWords(t, []impl.Rung{}, turnover)
	}
}

func TestP1NoPicksLanesOrParcelsAndNilAreTheSame(t *testing.T) {
	for _, h := range oddHalls() {
		for _, picks := range [][]impl.Spot{nil, {}} {
			for _, order := range [][]int{nil, {}, {0}} {
				wantPathByWords(t, h, picks, order)
			}
			wantBestPathBySearch(t, h, picks)
		}
		for _, order := range [][]int{nil, {}} {
			wantPathByWords(t, h, teaPicks(), order)
		}
	}
	for _, parcels := range append(oddParcels(), []int{}) {
		wantSortedByWords(t, nil, parcels)
		wantSortedByWords(t, []impl.Lane{}, parcels)
	}
	for _, lanes := range oddLanes() {
		wantSortedByWords(t, lanes, nil)
		wantSortedByWords(t, lanes, []int{})
	}
}

func TestP1NoStopsOrOrderAndNilAreTheSame(t *testing.T) {
	for _, begin := range oddBegins() {
		for _, stops := range [][]impl.Stop{nil, {}} {
			for _, order := range [][]int{nil, {}, {0}} {
				wantRouteByWords(t, stops, begin, order)
			}
			wantBestRouteBySearch(t, stops, begin)
			wantLeastEndByWords(t, stops, begin)
		}
		for _, order := range [][]int{nil, {}} {
			wantRouteByWords(t, teaStops(), begin, order)
		}
	}
}

func TestP1NoShiftsWorkersOrWhoAndNilAreTheSame(t *testing.T) {
	none := workerOf("a", 100, 0, 1)
	for _, shifts := range [][]impl.Shift{nil, {}} {
		for _, workers := range append(oddWorkers(), []impl.Worker{}) {
			wantShiftsOK(t, shifts, workers, shiftsByWords(shifts, workers))
			wantBestRosterBySearch(t, shifts, workers)
			for _, who := range [][]int{nil, {}, {0}} {
				wantRosterByWords(t, shifts, workers, who)
			}
		}
	}
	for _, workers := range [][]impl.Worker{nil, {}} {
		for _, shifts := range oddShifts() {
			wantShiftsOK(t, shifts, workers, shiftsByWords(shifts, workers))
			wantBestRosterBySearch(t, shifts, workers)
			for _, who := range [][]int{nil, {}, {0}, {0, 0, 0}} {
				wantRosterByWords(t, shifts, workers, who)
			}
		}
	}
	for _, skills := range [][]string{nil, {}} {
		none.Skills = skills
		wantNoRoster(t, apartShifts(1), []impl.Worker{none}, []int{0}, impl.ErrKind, 0)
		wantNoBestRoster(t, apartShifts(1), []impl.Worker{none}, impl.ErrNone)
		wantRoster(t, nil, []impl.Worker{none}, nil, impl.Roster{}, impl.OK, 0)
	}
}

func TestP1NoTraceOrPowersAndNilAreTheSame(t *testing.T) {
	for _, trace := range [][]float64{nil, {}} {
		wantWatch(t, trace, impl.Watch{}, impl.ErrNone)
		for _, number := range oddFloats() {
			for _, hold := range oddNumbers() {
				wantAlarmsByWords(t, trace, number, -1000, hold)
			}
			wantAlarmsByWords(t, trace, 1000, number, 1)
			wantWarmByWords(t, trace, number, 1.5)
			wantWarmByWords(t, trace, 5, float32(number))
		}
	}
	for _, none := range [][]impl.Power{nil, {}} {
		wantBridge(t, none, impl.Power{}, impl.OK)
		for _, powers := range append(oddPowers(), none) {
			wantPowerByWords(t, none, powers)
			wantPowerByWords(t, powers, none)
		}
	}
}

func TestP1NoSourcesWantedOrFromAndNilAreTheSame(t *testing.T) {
	for _, sources := range [][]impl.Source{nil, {}} {
		for _, wanted := range append(oddWanted(), []impl.Stocked{}) {
			wantSourcesOK(t, sources, wanted, sourcesByWords(sources, wanted))
			wantBestSendingBySearch(t, sources, wanted)
			for _, from := range [][]int{nil, {}, {0}} {
				wantSendingByWords(t, sources, wanted, from)
			}
		}
	}
	for _, wanted := range [][]impl.Stocked{nil, {}} {
		for _, sources := range oddSources() {
			wantSourcesOK(t, sources, wanted, sourcesByWords(sources, wanted))
			wantBestSendingBySearch(t, sources, wanted)
			for _, from := range [][]int{nil, {}, {0}} {
				wantSendingByWords(t, sources, wanted, from)
			}
		}
	}
	for _, stock := range [][]impl.Stocked{nil, {}} {
		none := sourcesOf(sourceOf("s", 5, stock...))
		none[0].Stock = stock
		wantSourcesOK(t, none, webWanted(), true)
		wantNoSending(t, none, webWanted(), []int{0, 0}, impl.ErrShort)
		wantNoBestSending(t, none, webWanted(), impl.ErrNone)
		wantSending(t, none, nil, nil, impl.Sourcing{}, impl.OK)
	}
}

func TestP1NoActsOfCartsAndNilAreTheSame(t *testing.T) {
	for _, units := range oddStocks() {
		toldN, cartsN, codeN := impl.CartRun(units, nil)
		toldE, cartsE, codeE := impl.CartRun(units, []impl.CartAct{})
		if len(toldN) != 0 || len(toldE) != 0 || !sameCarts(cartsN, cartsE) || codeN != codeE {
			t.Errorf("CartRun(%d): %v, %+v, %d of nil; %v, %+v, %d of no acts", units, toldN, cartsN, codeN, toldE, cartsE, codeE)
		}
	}
}

package tests

import (
	"math/rand/v2"
	"slices"
	"strings"
	"testing"

	"loop.example/g00067/impl"
)

// edgeNumbers are some numbers at both ends of each field's, by field. Terms with these Nums begin and end at one of them, so that no other number can tell more.
func edgeNumbers() [][]int {
	return [][]int{impl.FdQty: {1, 2, 3, 998, 999}, impl.FdAmount: {0, 1, 2, 999999, 1000000}, impl.FdHour: {0, 1, 22, 23}, impl.FdDay: {1, 2, 6, 7}, impl.FdAge: {0, 1, 2, 119, 120}}
}

// factsOf are all facts of these numbers, in their order.
func factsOf(numbers [][]int) []impl.Facts {
	var facts []impl.Facts
	for _, qty := range numbers[impl.FdQty] {
		for _, amount := range numbers[impl.FdAmount] {
			for _, hour := range numbers[impl.FdHour] {
				for _, day := range numbers[impl.FdDay] {
					for _, age := range numbers[impl.FdAge] {
						facts = append(facts, impl.Facts{Qty: qty, Amount: amount, Hour: hour, Day: day, Age: age})
					}
				}
			}
		}
	}
	return facts
}

// firstFacts is a plain search for the least facts with which all terms hold.
func firstFacts(facts []impl.Facts, terms []impl.Term) (impl.Facts, bool) {
	for _, f := range facts {
		if allHold(terms, f) {
			return f, true
		}
	}
	return impl.Facts{}, false
}

func termsOf(terms []impl.Term, numbers []int) []impl.Term {
	var some []impl.Term
	for _, number := range numbers {
		some = append(some, terms[number])
	}
	return some
}

// coreByWords leaves out terms from the last to the first, as the document says.
func coreByWords(facts []impl.Facts, terms []impl.Term) []int {
	var left []int
	for number := range terms {
		left = append(left, number)
	}
	for number := len(terms) - 1; number >= 0; number-- {
		var others []int
		for _, n := range left {
			if n != number {
				others = append(others, n)
			}
		}
		if _, can := firstFacts(facts, termsOf(terms, others)); !can {
			left = others
		}
	}
	return left
}

// termsAmong draws terms of these numbers; few fields make many that can not all hold.
func termsAmong(r *rand.Rand, numbers [][]int, fields []int, count int) []impl.Term {
	var terms []impl.Term
	for range count {
		field := fields[r.IntN(len(fields))]
		terms = append(terms, term(field, 1+r.IntN(3), numbers[field][r.IntN(len(numbers[field]))]))
	}
	return terms
}

func wantWitness(t *testing.T, rule impl.Clause, want impl.Facts) {
	t.Helper()
	f, code, core := impl.Witness(rule)
	if f != want || code != impl.OK || len(core) != 0 {
		t.Errorf("Witness(%v): %+v, %d, %v, not %+v", rule, f, code, core, want)
	}
	if number, code := impl.Decide([]impl.Clause{rule}, f); number != 0 || code != impl.OK {
		t.Errorf("Witness(%v): it does not fire with %+v", rule, f)
	}
}

func wantNever(t *testing.T, rule impl.Clause, want ...int) {
	t.Helper()
	f, code, core := impl.Witness(rule)
	if f != (impl.Facts{}) || code != impl.ErrNone || !slices.Equal(core, want) {
		t.Errorf("Witness(%v): %+v, %d, %v, not %v", rule, f, code, core, want)
	}
	if hidden, code := impl.Hidden([]impl.Clause{rule}); !slices.Equal(hidden, []int{0}) || code != impl.OK {
		t.Errorf("Hidden(%v): %v, %d", rule, hidden, code)
	}
}

func TestP7WitnessByHand(t *testing.T) {
	least := impl.Facts{Qty: 1, Day: 1}
	wantWitness(t, deny("a"), least)
	for _, field := range fieldWords() {
		for _, num := range []int{field.least, field.least + 1, field.most - 1, field.most} {
			wantWitness(t, deny("a", term(field.number, impl.OpLeast, num)), withField(least, field.number, num))
			wantWitness(t, deny("a", term(field.number, impl.OpIs, num)), withField(least, field.number, num))
			wantWitness(t, deny("a", term(field.number, impl.OpMost, num)), least)
			wantWitness(t, deny("a", term(field.number, impl.OpMost, num), term(field.number, impl.OpIs, num), term(field.number, impl.OpLeast, num)), withField(least, field.number, num))
			wantWitness(t, deny("a", term(field.number, impl.OpLeast, num), term(field.number, impl.OpLeast, field.least), term(field.number, impl.OpMost, field.most)), withField(least, field.number, num))
		}
	}
	wantWitness(t, ruleOf("a", impl.AcOff, 5, term(impl.FdAge, impl.OpLeast, 18), term(impl.FdHour, impl.OpLeast, 6), term(impl.FdQty, impl.OpMost, 3), term(impl.FdHour, impl.OpLeast, 20), term(impl.FdHour, impl.OpMost, 22), term(impl.FdAmount, impl.OpLeast, 1), term(impl.FdDay, impl.OpIs, 7)),
		impl.Facts{Qty: 1, Amount: 1, Hour: 20, Day: 7, Age: 18})
}

func TestP7TermsThatCanNotAllHold(t *testing.T) {
	many, few := term(impl.FdQty, impl.OpLeast, 5), term(impl.FdQty, impl.OpMost, 4)
	old, young := term(impl.FdAge, impl.OpLeast, 10), term(impl.FdAge, impl.OpMost, 9)
	day3, day4, late := term(impl.FdDay, impl.OpIs, 3), term(impl.FdDay, impl.OpIs, 4), term(impl.FdHour, impl.OpLeast, 22)
	wantNever(t, deny("a", many, few), 0, 1)
	wantNever(t, deny("a", few, many), 0, 1)
	wantNever(t, deny("a", day3, day4), 0, 1)
	wantNever(t, deny("a", day3, many, young, few), 1, 3)
	wantNever(t, deny("a", many, few, old, young), 0, 1) // of several groups the one that is left when the last are left out first
	wantNever(t, deny("a", many, old, few, young), 0, 2)
	wantNever(t, deny("a", many, old, young, few), 1, 2)
	wantNever(t, deny("a", many, many, few), 0, 2)
	wantNever(t, deny("a", many, few, few), 0, 1)
	wantNever(t, deny("a", late, day3, day4, day3), 1, 2)
	wantNever(t, deny("a", day3, day3, day3, day4), 0, 3)
	wantNever(t, deny("a", few, term(impl.FdQty, impl.OpLeast, 2), term(impl.FdQty, impl.OpIs, 5), many), 0, 2)
	wantNever(t, deny("a", late, late, late, late, late, day4, late, day3), 5, 7)
	wantNever(t, deny("a", many, few, old, young, day3, day4, late, term(impl.FdHour, impl.OpMost, 21)), 0, 1)
	for _, field := range fieldWords() {
		wantNever(t, deny("a", term(field.number, impl.OpLeast, field.most), term(field.number, impl.OpMost, field.most-1)), 0, 1)
		wantNever(t, deny("a", term(field.number, impl.OpIs, field.least), term(field.number, impl.OpIs, field.most)), 0, 1)
	}
}

func TestP7WitnessByAPlainSearch(t *testing.T) {
	r, numbers := fixed(), edgeNumbers()
	facts := factsOf(numbers)
	never, fires := 0, 0
	for range 1500 {
		fields := [][]int{{1, 2, 3, 4, 5}, {1, 5}, {2, 3, 4}, {1 + r.IntN(5)}}[r.IntN(4)]
		rule := deny("a", termsAmong(r, numbers, fields, r.IntN(impl.MaxTerms+1))...)
		if f, can := firstFacts(facts, rule.Terms); can {
			wantWitness(t, rule, f)
			fires++
			continue
		}
		never++
		core := coreByWords(facts, rule.Terms)
		wantNever(t, rule, core...)
		wantNoneToSpare(t, facts, rule, core)
	}
	if never < 300 || fires < 300 {
		t.Errorf("%d rules never fire, %d do", never, fires)
	}
}

// wantNoneToSpare: the terms can not all hold, and without any one of them the others can.
func wantNoneToSpare(t *testing.T, facts []impl.Facts, rule impl.Clause, core []int) {
	t.Helper()
	if _, can := firstFacts(facts, termsOf(rule.Terms, core)); can {
		t.Errorf("terms %v of %v can all hold", core, rule)
	}
	for at := range core {
		if _, can := firstFacts(facts, termsOf(rule.Terms, slices.Delete(slices.Clone(core), at, at+1))); !can {
			t.Errorf("of terms %v of %v one can be left out", core, rule)
		}
	}
}

// TestP7WitnessOfHoursAndDays searches all hours and days there are.
func TestP7WitnessOfHoursAndDays(t *testing.T) {
	numbers := [][]int{impl.FdQty: {1}, impl.FdAmount: {0}, impl.FdHour: nil, impl.FdDay: nil, impl.FdAge: {0}}
	for hour := range 24 {
		numbers[impl.FdHour] = append(numbers[impl.FdHour], hour)
	}
	for day := 1; day <= 7; day++ {
		numbers[impl.FdDay] = append(numbers[impl.FdDay], day)
	}
	r, facts := fixed(), factsOf(numbers)
	for range 5000 {
		rule := deny("a", termsAmong(r, numbers, []int{impl.FdHour, impl.FdDay}, r.IntN(5))...)
		if f, can := firstFacts(facts, rule.Terms); can {
			wantWitness(t, rule, f)
		} else {
			wantNever(t, rule, coreByWords(facts, rule.Terms)...)
		}
	}
}

func TestWitnessAndClashOfWrongRules(t *testing.T) {
	rules := []impl.Clause{{}, deny("a", slices.Repeat([]impl.Term{term(impl.FdDay, impl.OpIs, 3)}, impl.MaxTerms+1)...), deny("a", slices.Repeat([]impl.Term{term(impl.FdDay, impl.OpIs, 3)}, impl.MaxList+1)...), deny(strings.Repeat("n", impl.MaxText+1))}
	for _, list := range wrongRules() {
		if len(list) == 1 {
			rules = append(rules, list[0])
		}
	}
	right := ruleOf("right", impl.AcOff, 5)
	for _, rule := range rules {
		if f, code, core := impl.Witness(rule); f != (impl.Facts{}) || code != impl.ErrBad || len(core) != 0 {
			t.Errorf("Witness(%.200v): %v, %d, %v", rule, f, code, core)
		}
		for _, two := range [][2]impl.Clause{{rule, right}, {right, rule}, {rule, rule}} {
			if f, clash, code := impl.Clash(two[0], two[1]); f != (impl.Facts{}) || clash || code != impl.ErrBad {
				t.Errorf("Clash(%.400v): %v, %v, %d", two, f, clash, code)
			}
		}
	}
}

func wantClash(t *testing.T, a, b impl.Clause, want impl.Facts, wantIs bool) {
	t.Helper()
	for _, two := range [][2]impl.Clause{{a, b}, {b, a}} {
		if f, is, code := impl.Clash(two[0], two[1]); f != want || is != wantIs || code != impl.OK {
			t.Errorf("Clash(%v, %v): %+v, %v, %d, not %+v, %v", two[0], two[1], f, is, code, want, wantIs)
		}
	}
}

func TestP7ClashByHand(t *testing.T) {
	least := impl.Facts{Qty: 1, Day: 1}
	kids := deny("kids", term(impl.FdAge, impl.OpMost, 17), term(impl.FdHour, impl.OpLeast, 22))
	many := ruleOf("many", impl.AcPercent, 15, term(impl.FdQty, impl.OpLeast, 10))
	wantClash(t, kids, many, impl.Facts{Qty: 10, Hour: 22, Day: 1}, true)
	wantClash(t, kids, ruleOf("old", impl.AcOff, 5, term(impl.FdAge, impl.OpLeast, 18)), impl.Facts{}, false)
	wantClash(t, kids, ruleOf("young", impl.AcOff, 5, term(impl.FdAge, impl.OpLeast, 17)), impl.Facts{Qty: 1, Hour: 22, Day: 1, Age: 17}, true)
	wantClash(t, kids, deny("all"), impl.Facts{}, false)
	wantClash(t, deny("a"), deny("b"), impl.Facts{}, false)
	wantClash(t, deny("a"), ruleOf("b", impl.AcOff, 0), least, true) // another Act, though both Nums are 0
	wantClash(t, ruleOf("a", impl.AcPercent, 0), ruleOf("b", impl.AcOff, 0), least, true)
	wantClash(t, ruleOf("a", impl.AcPercent, 5), ruleOf("b", impl.AcOff, 5), least, true)
	wantClash(t, ruleOf("a", impl.AcPercent, 5), ruleOf("b", impl.AcPercent, 6), least, true)
	wantClash(t, ruleOf("a", impl.AcPercent, 5), ruleOf("b", impl.AcPercent, 5), impl.Facts{}, false)
	wantClash(t, ruleOf("a", impl.AcOff, 0), ruleOf("b", impl.AcOff, most), least, true)
	wantClash(t, ruleOf("a", impl.AcOff, 5), ruleOf("a", impl.AcOff, 6), least, true) // one Name is no fault of two rules that are right
	wantClash(t, many, many, impl.Facts{}, false)
	never := ruleOf("never", impl.AcOff, 5, term(impl.FdQty, impl.OpLeast, 5), term(impl.FdQty, impl.OpMost, 4))
	wantClash(t, never, deny("all"), impl.Facts{}, false)
	wantClash(t, never, ruleOf("too", impl.AcOff, 6, never.Terms...), impl.Facts{}, false)
	wantClash(t, deny("a", slices.Repeat([]impl.Term{term(impl.FdHour, impl.OpLeast, 3)}, impl.MaxTerms)...), ruleOf("b", impl.AcOff, 1, slices.Repeat([]impl.Term{term(impl.FdAge, impl.OpLeast, 4)}, impl.MaxTerms)...), impl.Facts{Qty: 1, Hour: 3, Day: 1, Age: 4}, true)
}

func TestP7ClashByAPlainSearch(t *testing.T) {
	r, numbers := fixed(), edgeNumbers()
	facts := factsOf(numbers)
	clashes := 0
	for range 1500 {
		fields := [][]int{{1, 2, 3, 4, 5}, {1, 5}, {1 + r.IntN(5)}}[r.IntN(3)]
		a := ruleOf("a", 1+r.IntN(2), r.IntN(2), termsAmong(r, numbers, fields, r.IntN(4))...)
		b := ruleOf("b", 1+r.IntN(2), r.IntN(2), termsAmong(r, numbers, fields, r.IntN(4))...)
		f, both := firstFacts(facts, slices.Concat(a.Terms, b.Terms))
		if !both || a.Act == b.Act && a.Num == b.Num {
			wantClash(t, a, b, impl.Facts{}, false)
			continue
		}
		clashes++
		wantClash(t, a, b, f, true)
		if first, code := impl.Decide([]impl.Clause{a, b}, f); first != 0 || code != impl.OK {
			t.Errorf("%v does not fire with %+v", a, f)
		}
		if first, code := impl.Decide([]impl.Clause{b, a}, f); first != 0 || code != impl.OK {
			t.Errorf("%v does not fire with %+v", b, f)
		}
	}
	if clashes < 200 || clashes > 1300 {
		t.Errorf("%d clashes", clashes)
	}
}

func wantHidden(t *testing.T, rules []impl.Clause, want ...int) {
	t.Helper()
	if hidden, code := impl.Hidden(rules); !slices.Equal(hidden, want) || code != impl.OK {
		t.Errorf("Hidden(%v): %v, %d, not %v", rules, hidden, code, want)
	}
}

func TestP7HiddenByHand(t *testing.T) {
	all := ruleOf("all", impl.AcOff, 0)
	late := deny("late", term(impl.FdHour, impl.OpLeast, 20))
	later := deny("later", term(impl.FdHour, impl.OpLeast, 22), term(impl.FdAge, impl.OpMost, 17))
	never := deny("never", term(impl.FdQty, impl.OpLeast, 5), term(impl.FdQty, impl.OpMost, 4))
	wantHidden(t, nil)
	wantHidden(t, []impl.Clause{})
	wantHidden(t, []impl.Clause{all})
	wantHidden(t, []impl.Clause{never}, 0)
	wantHidden(t, []impl.Clause{all, late, later}, 1, 2)
	wantHidden(t, []impl.Clause{later, late, all})
	wantHidden(t, []impl.Clause{late, later, all}, 1)
	wantHidden(t, []impl.Clause{never, later, all}, 0)
	wantHidden(t, []impl.Clause{later, never, late, all}, 1)
	wantHidden(t, []impl.Clause{never, all, deny("again", never.Terms...)}, 0, 2)
	wantHidden(t, []impl.Clause{late, deny("same", late.Terms...)}, 1) // covers though it says the same
	wantHidden(t, []impl.Clause{deny("odd", term(impl.FdQty, impl.OpLeast, 1), term(impl.FdAge, impl.OpMost, 120)), all}, 1)
	am, pm := deny("am", term(impl.FdHour, impl.OpMost, 11)), deny("pm", term(impl.FdHour, impl.OpLeast, 12))
	wantHidden(t, []impl.Clause{am, pm, all}) // both together cover it, neither does alone
	wantHidden(t, []impl.Clause{am, pm, all, deny("noon", term(impl.FdHour, impl.OpIs, 12)), deny("eleven", term(impl.FdHour, impl.OpIs, 11))}, 3, 4)
	wantHidden(t, []impl.Clause{never, deny("five", term(impl.FdQty, impl.OpIs, 5)), deny("four", term(impl.FdQty, impl.OpIs, 4))}, 0) // what never fires covers none
	rest := manyRules(impl.MaxClauses)
	var behind []int
	for number := range rest[1:] {
		behind = append(behind, number+1)
	}
	wantHidden(t, rest, behind...)
}

func TestP7HiddenAtEachFieldsEnds(t *testing.T) {
	for _, field := range fieldWords() {
		for _, num := range []int{field.least + 1, field.most - 1} {
			from, to := deny("from", term(field.number, impl.OpLeast, num)), deny("to", term(field.number, impl.OpMost, num))
			below, above, is := deny("below", term(field.number, impl.OpMost, num-1)), deny("above", term(field.number, impl.OpLeast, num+1)), deny("is", term(field.number, impl.OpIs, num))
			wantHidden(t, []impl.Clause{from, above, is, to, below}, 1, 2, 4)
			wantHidden(t, []impl.Clause{to, below, is, from, above}, 1, 2, 4)
			wantHidden(t, []impl.Clause{is, below, above, to, from})
			wantHidden(t, []impl.Clause{above, from, below, to, is}, 4)
		}
	}
}

func hiddenByWords(facts []impl.Facts, rules []impl.Clause) []int {
	var hidden []int
	for number, rule := range rules {
		if _, can := firstFacts(facts, rule.Terms); !can {
			hidden = append(hidden, number)
			continue
		}
		for _, ahead := range rules[:number] {
			covers := true
			for _, f := range facts {
				covers = covers && (!allHold(rule.Terms, f) || allHold(ahead.Terms, f))
			}
			if covers {
				hidden = append(hidden, number)
				break
			}
		}
	}
	return hidden
}

func TestP7HiddenByAPlainSearch(t *testing.T) {
	r, numbers := fixed(), edgeNumbers()
	facts := factsOf(numbers)
	for range 400 {
		fields := [][]int{{1, 2, 3, 4, 5}, {1, 5}, {1 + r.IntN(5)}}[r.IntN(3)]
		rules := manyRules(r.IntN(6))
		for i := range rules {
			rules[i].Terms = termsAmong(r, numbers, fields, r.IntN(4))
		}
		hidden := hiddenByWords(facts, rules)
		wantHidden(t, rules, hidden...)
		for _, f := range facts {
			if number, code := impl.Decide(rules, f); code == impl.OK && slices.Contains(hidden, number) {
				t.Errorf("rule %d of %v is hidden and counts with %+v", number, rules, f)
			}
		}
	}
}

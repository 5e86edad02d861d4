package tests

import (
	"fmt"
	"math"
	"math/rand/v2"
	"slices"
	"strings"
	"testing"

	"loop.example/g00067/impl"
)

// ruleWord is a row of the document's tables, written out anew: a field or an act, its word and the ends of its numbers.
type ruleWord struct {
	number      int
	word        string
	least, most int
}

func fieldWords() []ruleWord {
	return []ruleWord{{impl.FdQty, "qty", 1, 999}, {impl.FdAmount, "amount", 0, 1000000}, {impl.FdHour, "hour", 0, 23}, {impl.FdDay, "day", 1, 7}, {impl.FdAge, "age", 0, 120}}
}

func opWords() []ruleWord {
	return []ruleWord{{number: impl.OpLeast, word: ">="}, {number: impl.OpMost, word: "<="}, {number: impl.OpIs, word: "="}}
}

func actWords() []ruleWord {
	return []ruleWord{{impl.AcPercent, "percent", 0, 100}, {impl.AcOff, "off", 0, most}, {impl.AcDeny, "deny", 0, 0}}
}

func term(field, op, num int) impl.Term { return impl.Term{Field: field, Op: op, Num: num} }

func ruleOf(name string, act, num int, terms ...impl.Term) impl.Clause {
	return impl.Clause{Name: name, Terms: terms, Act: act, Num: num}
}

func deny(name string, terms ...impl.Term) impl.Clause { return ruleOf(name, impl.AcDeny, 0, terms...) }

// sameRules: an empty list and nil are the same.
func sameRules(a, b []impl.Clause) bool {
	return slices.EqualFunc(a, b, func(a, b impl.Clause) bool {
		return a.Name == b.Name && a.Act == b.Act && a.Num == b.Num && slices.Equal(a.Terms, b.Terms)
	})
}

// manyRules differ in their names alone.
func manyRules(count int) []impl.Clause {
	var rules []impl.Clause
	for _, name := range someNames(count) {
		rules = append(rules, deny(name))
	}
	return rules
}

// someTerms draws from all that is right, the ends of each field's numbers more often than what lies between.
func someTerms(r *rand.Rand, count int) []impl.Term {
	var terms []impl.Term
	for range count {
		field := fieldWords()[r.IntN(len(fieldWords()))]
		nums := []int{field.least, field.most, field.least + r.IntN(field.most-field.least+1)}
		terms = append(terms, term(field.number, 1+r.IntN(len(opWords())), nums[r.IntN(len(nums))]))
	}
	return terms
}

func someRules(r *rand.Rand, count int) []impl.Clause {
	rules := manyRules(count)
	for i := range rules {
		act := actWords()[r.IntN(len(actWords()))]
		nums := []int{act.least, act.most, act.least + r.IntN(act.most-act.least+1)}
		rules[i].Terms = someTerms(r, r.IntN(impl.MaxTerms+1))
		rules[i].Act, rules[i].Num = act.number, nums[r.IntN(len(nums))]
	}
	return rules
}

func TestRuleBounds(t *testing.T) {
	got := []int{impl.FdQty, impl.FdAmount, impl.FdHour, impl.FdDay, impl.FdAge, impl.OpLeast, impl.OpMost, impl.OpIs, impl.AcPercent, impl.AcOff, impl.AcDeny, impl.MaxTerms, impl.MaxClauses}
	if !slices.Equal(got, []int{1, 2, 3, 4, 5, 1, 2, 3, 1, 2, 3, 8, 40}) {
		t.Error("constants", got)
	}
}

func rightRules() [][]impl.Clause {
	lists := [][]impl.Clause{
		nil, {}, {deny("a")}, {deny("_")}, {deny("käse")}, {deny("rule"), deny("when"), deny("then"), deny("and"), deny("deny")}, {deny(strings.Repeat("n", impl.MaxName))},
		{deny("a"), deny("A"), deny("aa"), deny("a1")}, {deny("a", []impl.Term{}...)}, manyRules(impl.MaxClauses), {deny("a", slices.Repeat([]impl.Term{term(impl.FdDay, impl.OpIs, 3)}, impl.MaxTerms)...)},
		{deny("never", term(impl.FdQty, impl.OpLeast, 5), term(impl.FdQty, impl.OpMost, 4))},
	}
	for _, act := range actWords() {
		lists = append(lists, []impl.Clause{ruleOf("a", act.number, act.least)}, []impl.Clause{ruleOf("a", act.number, act.most)})
	}
	for _, field := range fieldWords() {
		for _, op := range opWords() {
			lists = append(lists, []impl.Clause{deny("a", term(field.number, op.number, field.least), term(field.number, op.number, field.most))})
		}
	}
	return lists
}

func wrongRules() [][]impl.Clause {
	lists := [][]impl.Clause{
		{{}}, {deny("a"), {}}, {deny("a"), deny("a")}, {deny("a"), deny("b"), ruleOf("a", impl.AcOff, 7)}, manyRules(impl.MaxClauses + 1), make([]impl.Clause, impl.MaxList), manyRules(impl.MaxList),
		{deny("a", slices.Repeat([]impl.Term{term(impl.FdDay, impl.OpIs, 3)}, impl.MaxTerms+1)...)}, {deny("a", slices.Repeat([]impl.Term{term(impl.FdDay, impl.OpIs, 3)}, impl.MaxList+1)...)},
		{deny("a", make([]impl.Term, 1)...)}, append(manyRules(impl.MaxClauses-1), deny("n0")),
	}
	for _, name := range textsThatAreNoNames() {
		lists = append(lists, []impl.Clause{deny(name)}, []impl.Clause{deny("a"), deny(name)})
	}
	for _, act := range actWords() {
		for _, num := range []int{act.least - 1, act.most + 1, math.MinInt, math.MaxInt} {
			lists = append(lists, []impl.Clause{ruleOf("a", act.number, num)})
		}
	}
	for _, number := range []int{math.MinInt, -1, 0, 4, 6, math.MaxInt} {
		if number != impl.FdDay {
			lists = append(lists, []impl.Clause{deny("a", term(number, impl.OpIs, 1))})
		}
		lists = append(lists, []impl.Clause{ruleOf("a", number, 0)}, []impl.Clause{deny("a", term(impl.FdQty, number, 1))})
	}
	for _, field := range fieldWords() {
		for _, op := range opWords() {
			for _, num := range []int{field.least - 1, field.most + 1, math.MinInt, math.MaxInt} {
				lists = append(lists, []impl.Clause{deny("a", term(field.number, op.number, num))}, []impl.Clause{deny("a"), deny("b", term(field.number, op.number, field.most), term(field.number, op.number, num))})
			}
		}
	}
	return lists
}

func TestRulesThatAreRight(t *testing.T) {
	for _, rules := range rightRules() {
		if !impl.ClausesOK(rules) {
			t.Errorf("ClausesOK(%.200v) is false", rules)
		}
		if _, code := impl.RulesText(rules); code != impl.OK {
			t.Errorf("RulesText(%.200v): %d", rules, code)
		}
		if _, code := impl.Decide(rules, impl.Facts{Qty: 1, Day: 1}); code != impl.OK && code != impl.ErrNone {
			t.Errorf("Decide(%.200v): %d", rules, code)
		}
		if _, code := impl.Hidden(rules); code != impl.OK {
			t.Errorf("Hidden(%.200v): %d", rules, code)
		}
	}
}

func wantRulesFault(t *testing.T, rules []impl.Clause, want int) {
	t.Helper()
	if impl.ClausesOK(rules) {
		t.Errorf("ClausesOK(%.200v) is true", rules)
	}
	if text, code := impl.RulesText(rules); code != want || text != "" {
		t.Errorf("RulesText(%.200v): %q, %d", rules, text, code)
	}
	for _, f := range []impl.Facts{{Qty: 1, Day: 1}, {}} { // wrong facts are told behind wrong rules
		if number, code := impl.Decide(rules, f); code != want || number != 0 {
			t.Errorf("Decide(%.200v): %d, %d", rules, number, code)
		}
	}
	if hidden, code := impl.Hidden(rules); code != want || len(hidden) != 0 {
		t.Errorf("Hidden(%.200v): %v, %d", rules, hidden, code)
	}
}

func TestRulesThatAreWrong(t *testing.T) {
	for _, rules := range wrongRules() {
		wantRulesFault(t, rules, impl.ErrBad)
	}
	wantRulesFault(t, manyRules(impl.MaxList+1), impl.ErrLong)
	wantRulesFault(t, make([]impl.Clause, impl.MaxList+1), impl.ErrLong)
}

func TestP7RulesAsTheyAreWritten(t *testing.T) {
	rules := []impl.Clause{
		deny("kids", term(impl.FdAge, impl.OpMost, 17), term(impl.FdHour, impl.OpLeast, 22)),
		ruleOf("many", impl.AcPercent, 15, term(impl.FdQty, impl.OpLeast, 10)),
		ruleOf("käse", impl.AcOff, most, term(impl.FdAmount, impl.OpIs, 1000000), term(impl.FdDay, impl.OpIs, 7), term(impl.FdAge, impl.OpIs, 0)),
		ruleOf("all", impl.AcOff, 0),
		ruleOf("none", impl.AcPercent, 0, term(impl.FdQty, impl.OpMost, 999)),
		deny("then"),
	}
	want := "rule kids when age <= 17 and hour >= 22 then deny\n" +
		"rule many when qty >= 10 then percent 15\n" +
		"rule käse when amount = 1000000 and day = 7 and age = 0 then off 1000000000\n" +
		"rule all then off 0\n" +
		"rule none when qty <= 999 then percent 0\n" +
		"rule then then deny\n"
	if text, code := impl.RulesText(rules); text != want || code != impl.OK {
		t.Errorf("RulesText: %q, %d", text, code)
	}
	for _, none := range [][]impl.Clause{nil, {}} {
		if text, code := impl.RulesText(none); text != "" || code != impl.OK {
			t.Errorf("RulesText of no rules: %q, %d", text, code)
		}
	}
}

func wantReadBack(t *testing.T, rules []impl.Clause) {
	t.Helper()
	text, code := impl.RulesText(rules)
	if code != impl.OK {
		t.Fatalf("RulesText(%v): %d", rules, code)
	}
	if lines := strings.Count(text, "\n"); lines != len(rules) {
		t.Errorf("RulesText(%v) has %d lines", rules, lines)
	}
	read, code, line := impl.ReadRules(text)
	if !sameRules(read, rules) || code != impl.OK || line != 0 {
		t.Errorf("ReadRules of %q: %v, %d, %d", text, read, code, line)
	}
}

func TestP7WhatIsWrittenIsReadAsItWas(t *testing.T) {
	for _, rules := range rightRules() {
		wantReadBack(t, rules)
	}
	r := fixed()
	for range 2000 {
		wantReadBack(t, someRules(r, r.IntN(6)))
	}
	for range 20 {
		wantReadBack(t, someRules(r, impl.MaxClauses))
	}
}

// TestP7TheLongestRulesAreRead: the longest text there is for right rules is within the limit of a text.
func TestP7TheLongestRulesAreRead(t *testing.T) {
	rules := manyRules(impl.MaxClauses)
	for i := range rules {
		name := strings.Repeat("ä", impl.MaxName/2-1) + fmt.Sprint(10+i)
		rules[i] = ruleOf(name, impl.AcOff, most, slices.Repeat([]impl.Term{term(impl.FdAmount, impl.OpLeast, 1000000)}, impl.MaxTerms)...)
	}
	wantReadBack(t, rules)
}

func termHolds(x impl.Term, f impl.Facts) bool {
	number := map[int]int{impl.FdQty: f.Qty, impl.FdAmount: f.Amount, impl.FdHour: f.Hour, impl.FdDay: f.Day, impl.FdAge: f.Age}[x.Field]
	return x.Op == impl.OpLeast && number >= x.Num || x.Op == impl.OpMost && number <= x.Num || x.Op == impl.OpIs && number == x.Num
}

func allHold(terms []impl.Term, f impl.Facts) bool {
	for _, x := range terms {
		if !termHolds(x, f) {
			return false
		}
	}
	return true
}

func wantDecision(t *testing.T, rules []impl.Clause, f impl.Facts, want, wantCode int) {
	t.Helper()
	if number, code := impl.Decide(rules, f); number != want || code != wantCode {
		t.Errorf("Decide(%v, %+v): %d, %d, not %d, %d", rules, f, number, code, want, wantCode)
	}
}

// withField puts a number in one field of facts that are right.
func withField(f impl.Facts, field, number int) impl.Facts {
	switch field {
	case impl.FdQty:
		f.Qty = number
	case impl.FdAmount:
		f.Amount = number
	case impl.FdHour:
		f.Hour = number
	case impl.FdDay:
		f.Day = number
	case impl.FdAge:
		f.Age = number
	}
	return f
}

func someFacts() impl.Facts { return impl.Facts{Qty: 12, Amount: 3400, Hour: 13, Day: 5, Age: 40} }

func TestP7WhenATermHolds(t *testing.T) {
	for _, field := range fieldWords() {
		for _, num := range []int{field.least, field.least + 1, field.most - 1, field.most} {
			for number := max(num-2, field.least); number <= min(num+2, field.most); number++ {
				f := withField(someFacts(), field.number, number)
				for op, holds := range map[int]bool{impl.OpLeast: number >= num, impl.OpMost: number <= num, impl.OpIs: number == num} {
					if holds {
						wantDecision(t, []impl.Clause{deny("a", term(field.number, op, num))}, f, 0, impl.OK)
					} else {
						wantDecision(t, []impl.Clause{deny("a", term(field.number, op, num))}, f, 0, impl.ErrNone)
					}
				}
			}
		}
	}
}

func TestP7TheFirstRuleThatFires(t *testing.T) {
	rules := []impl.Clause{
		deny("kids", term(impl.FdAge, impl.OpMost, 17), term(impl.FdHour, impl.OpLeast, 22)),
		ruleOf("many", impl.AcPercent, 15, term(impl.FdQty, impl.OpLeast, 10)),
		ruleOf("late", impl.AcPercent, 5, term(impl.FdHour, impl.OpLeast, 20)),
	}
	wantDecision(t, rules, impl.Facts{Qty: 12, Hour: 23, Day: 1, Age: 17}, 0, impl.OK)
	wantDecision(t, rules, impl.Facts{Qty: 12, Hour: 23, Day: 1, Age: 18}, 1, impl.OK)
	wantDecision(t, rules, impl.Facts{Qty: 9, Hour: 23, Day: 1, Age: 18}, 2, impl.OK)
	wantDecision(t, rules, impl.Facts{Qty: 9, Hour: 19, Day: 1, Age: 17}, 0, impl.ErrNone)
	wantDecision(t, append(rules, deny("all")), impl.Facts{Qty: 9, Hour: 19, Day: 1, Age: 17}, 3, impl.OK)
	wantDecision(t, nil, someFacts(), 0, impl.ErrNone)
	wantDecision(t, []impl.Clause{}, someFacts(), 0, impl.ErrNone)
	wantDecision(t, []impl.Clause{deny("all"), deny("too")}, someFacts(), 0, impl.OK)
}

func TestP7DecideByWords(t *testing.T) {
	r := fixed()
	fired := 0
	for range 3000 {
		rules := someRules(r, r.IntN(6))
		for i := range rules {
			rules[i].Terms = rules[i].Terms[:min(len(rules[i].Terms), r.IntN(3))]
		}
		facts := someFacts()
		for _, field := range fieldWords() {
			facts = withField(facts, field.number, []int{field.least, field.most, field.least + r.IntN(field.most-field.least+1)}[r.IntN(3)])
		}
		want, code := 0, impl.ErrNone
		for number := len(rules) - 1; number >= 0; number-- {
			if allHold(rules[number].Terms, facts) {
				want, code = number, impl.OK
			}
		}
		fired += want
		wantDecision(t, rules, facts, want, code)
	}
	if fired == 0 {
		t.Error("no rule but the first fires")
	}
}

func TestFactsThatAreWrong(t *testing.T) {
	for _, rules := range [][]impl.Clause{nil, {deny("all")}, {deny("a", term(impl.FdDay, impl.OpIs, 3))}} {
		for _, field := range fieldWords() {
			for _, number := range []int{field.least - 1, field.most + 1, math.MinInt, math.MaxInt} {
				wantDecision(t, rules, withField(someFacts(), field.number, number), 0, impl.ErrRange)
			}
			for _, number := range []int{field.least, field.most} {
				if _, code := impl.Decide(rules, withField(someFacts(), field.number, number)); code == impl.ErrRange {
					t.Errorf("%d is one of field %d's numbers", number, field.number)
				}
			}
		}
		wantDecision(t, rules, impl.Facts{}, 0, impl.ErrRange)
	}
}

package tests

import (
	"math"
	"math/rand/v2"
	"slices"
	"strings"
	"testing"

	"loop.example/g00067/impl"
)

func settled(id string, amount int) impl.Settled { return impl.Settled{Id: id, Amount: amount} }

func settledOf(list ...impl.Settled) []impl.Settled { return list }

// manySettled differ in their Amounts, from 1 on.
func manySettled(count int) []impl.Settled {
	var list []impl.Settled
	for i := range count {
		list = append(list, settled("a", i+1))
	}
	return list
}

func pairsOf(pairs ...[2]int) [][]int {
	var list [][]int
	for _, pair := range pairs {
		list = append(list, []int{pair[0], pair[1]})
	}
	return list
}

func placesTo(count int) []int {
	var places []int
	for place := range count {
		places = append(places, place)
	}
	return places
}

func sameMatch(a, b impl.Match) bool {
	return slices.EqualFunc(a.Pairs, b.Pairs, slices.Equal[[]int]) && slices.Equal(a.Mine, b.Mine) && slices.Equal(a.Bank, b.Bank) && a.Difference == b.Difference
}

func wantMatch(t *testing.T, what string, mine, bank []impl.Settled, want impl.Match) {
	t.Helper()
	got, code := impl.Settle(mine, bank)
	if code != impl.OK || !sameMatch(got, want) {
		t.Errorf("%s: Settle(%.200v, %.200v) = %+v, %d; want %+v", what, mine, bank, got, code, want)
	}
	wantAllMatched(t, what, mine, bank)
}

func wantUnmatched(t *testing.T, what string, mine, bank []impl.Settled, want int) {
	t.Helper()
	got, code := impl.Settle(mine, bank)
	if code != want || !sameMatch(got, impl.Match{}) {
		t.Errorf("%s: Settle(%.200v, %.200v) = %+v, %d; want %d", what, mine, bank, got, code, want)
	}
}

// wantAllMatched: each place is told once, pairs are alike, nothing that is left on one side is left on the other one too, and what is left makes the Difference.
func wantAllMatched(t *testing.T, what string, mine, bank []impl.Settled) {
	t.Helper()
	match, _ := impl.Settle(mine, bank)
	ofMine, ofBank := slices.Clone(match.Mine), slices.Clone(match.Bank)
	difference, ahead := 0, -1
	for _, pair := range match.Pairs {
		if len(pair) != 2 || pair[0] <= ahead || mine[pair[0]] != bank[pair[1]] {
			t.Fatalf("%s: the pair %v of %v and %v, in %+v", what, pair, mine, bank, match)
		}
		ahead = pair[0]
		ofMine, ofBank = append(ofMine, pair[0]), append(ofBank, pair[1])
	}
	for _, i := range match.Mine {
		difference += mine[i].Amount
		for _, j := range match.Bank {
			if mine[i] == bank[j] {
				t.Errorf("%s: %v is left on both sides: %+v", what, mine[i], match)
			}
		}
	}
	for _, j := range match.Bank {
		difference -= bank[j].Amount
	}
	slices.Sort(ofMine)
	slices.Sort(ofBank)
	if !slices.Equal(ofMine, placesTo(len(mine))) || !slices.Equal(ofBank, placesTo(len(bank))) {
		t.Errorf("%s: not each place of %d and %d is told once: %+v", what, len(mine), len(bank), match)
	}
	if difference != match.Difference || !slices.IsSorted(match.Mine) || !slices.IsSorted(match.Bank) {
		t.Errorf("%s: what is left of %v and %v makes %d: %+v", what, mine, bank, difference, match)
	}
}

func TestP12ListsThatAreTheSame(t *testing.T) {
	three := settledOf(settled("a", 5), settled("b", -7), settled("c", 0))
	wantMatch(t, "the same", three, three, impl.Match{Pairs: pairsOf([2]int{0, 0}, [2]int{1, 1}, [2]int{2, 2})})
	wantMatch(t, "in another order", three, settledOf(three[2], three[0], three[1]), impl.Match{Pairs: pairsOf([2]int{0, 1}, [2]int{1, 2}, [2]int{2, 0})})
	wantMatch(t, "one", three[:1], three[:1], impl.Match{Pairs: pairsOf([2]int{0, 0})})
}

func TestP12ListsThatDiffer(t *testing.T) {
	mine := settledOf(settled("a", 5), settled("b", 7))
	for _, c := range []struct {
		what string
		bank []impl.Settled
		want impl.Match
	}{
		{"in an Id", settledOf(settled("a", 5), settled("c", 7)), impl.Match{Pairs: pairsOf([2]int{0, 0}), Mine: []int{1}, Bank: []int{1}}},
		{"in an Amount of more", settledOf(settled("a", 5), settled("b", 8)), impl.Match{Pairs: pairsOf([2]int{0, 0}), Mine: []int{1}, Bank: []int{1}, Difference: -1}},
		{"in an Amount of less", settledOf(settled("a", 4), settled("b", 7)), impl.Match{Pairs: pairsOf([2]int{1, 1}), Mine: []int{0}, Bank: []int{0}, Difference: 1}},
		{"in a sign", settledOf(settled("a", -5), settled("b", 7)), impl.Match{Pairs: pairsOf([2]int{1, 1}), Mine: []int{0}, Bank: []int{0}, Difference: 10}},
		{"in whose Amounts they are", settledOf(settled("a", 7), settled("b", 5)), impl.Match{Mine: []int{0, 1}, Bank: []int{0, 1}}},
		{"in the letters of an Id", settledOf(settled("A", 5), settled("bb", 7)), impl.Match{Mine: []int{0, 1}, Bank: []int{0, 1}}},
		{"in one that is missing", settledOf(settled("b", 7)), impl.Match{Pairs: pairsOf([2]int{1, 0}), Mine: []int{0}, Difference: 5}},
		{"in one that is there beside", settledOf(settled("x", 1), settled("a", 5), settled("y", 2), settled("b", 7), settled("z", 4)), impl.Match{Pairs: pairsOf([2]int{0, 1}, [2]int{1, 3}), Bank: []int{0, 2, 4}, Difference: -7}},
		{"in all", settledOf(settled("x", 1)), impl.Match{Mine: []int{0, 1}, Bank: []int{0}, Difference: 11}},
	} {
		wantMatch(t, c.what, mine, c.bank, c.want)
	}
}

func TestP12EntriesThatAreAlike(t *testing.T) {
	a, b := settled("a", 5), settled("b", 7)
	for _, c := range []struct {
		what       string
		mine, bank []impl.Settled
		want       impl.Match
	}{
		{"twice and once", settledOf(a, a), settledOf(a), impl.Match{Pairs: pairsOf([2]int{0, 0}), Mine: []int{1}, Difference: 5}},
		{"once and twice", settledOf(a), settledOf(a, a), impl.Match{Pairs: pairsOf([2]int{0, 0}), Bank: []int{1}, Difference: -5}},
		{"twice and twice", settledOf(a, a), settledOf(a, a), impl.Match{Pairs: pairsOf([2]int{0, 0}, [2]int{1, 1})}},
		{"three times and twice, others between", settledOf(a, b, a, a), settledOf(b, a, b, a), impl.Match{Pairs: pairsOf([2]int{0, 1}, [2]int{1, 0}, [2]int{2, 3}), Mine: []int{3}, Bank: []int{2}, Difference: -2}},
		{"twice and three times, others between", settledOf(b, a, b, a), settledOf(a, b, a, a), impl.Match{Pairs: pairsOf([2]int{0, 1}, [2]int{1, 0}, [2]int{3, 2}), Mine: []int{2}, Bank: []int{3}, Difference: 2}},
		{"the first of mine, though a later one stands at the place", settledOf(b, a, a), settledOf(settled("c", 1), settled("c", 1), a), impl.Match{Pairs: pairsOf([2]int{1, 2}), Mine: []int{0, 2}, Bank: []int{0, 1}, Difference: 10}},
		{"the first of bank, though a later one stands at the place", settledOf(settled("c", 1), settled("c", 2), a), settledOf(a, b, a), impl.Match{Pairs: pairsOf([2]int{2, 0}), Mine: []int{0, 1}, Bank: []int{1, 2}, Difference: -9}},
		{"alike in the Id alone", settledOf(a, settled("a", 6)), settledOf(settled("a", 6), a), impl.Match{Pairs: pairsOf([2]int{0, 1}, [2]int{1, 0})}},
		{"alike in the Amount alone", settledOf(a, settled("b", 5)), settledOf(settled("b", 5), a), impl.Match{Pairs: pairsOf([2]int{0, 1}, [2]int{1, 0})}},
		{"noughts", settledOf(settled("a", 0), settled("a", 0)), settledOf(settled("a", 0)), impl.Match{Pairs: pairsOf([2]int{0, 0}), Mine: []int{1}}},
	} {
		wantMatch(t, c.what, c.mine, c.bank, c.want)
	}
}

func TestP12AnEmptyListOnEitherSide(t *testing.T) {
	two := settledOf(settled("a", 5), settled("b", 7))
	for _, none := range [][]impl.Settled{nil, {}} {
		wantMatch(t, "on both", none, none, impl.Match{})
		wantMatch(t, "of the bank", two, none, impl.Match{Mine: []int{0, 1}, Difference: 12})
		wantMatch(t, "of mine", none, two, impl.Match{Bank: []int{0, 1}, Difference: -12})
	}
}

func TestP12AsManySettledAsThereMayBe(t *testing.T) {
	full, more := manySettled(impl.MaxPayments), manySettled(impl.MaxPayments+1)
	var each, crossed [][2]int
	for i := range impl.MaxPayments {
		each, crossed = append(each, [2]int{i, i}), append(crossed, [2]int{i, impl.MaxPayments - 1 - i})
	}
	backwards := slices.Clone(full)
	slices.Reverse(backwards)
	wantMatch(t, "MaxPayments", full, full, impl.Match{Pairs: pairsOf(each...)})
	wantMatch(t, "MaxPayments backwards", full, backwards, impl.Match{Pairs: pairsOf(crossed...)})
	wantMatch(t, "MaxPayments that are alike", slices.Repeat(full[:1], impl.MaxPayments), slices.Repeat(full[:1], impl.MaxPayments), impl.Match{Pairs: pairsOf(each...)})
	wantMatch(t, "MaxPayments of mine", full, nil, impl.Match{Mine: placesTo(impl.MaxPayments), Difference: 1830})
	wantMatch(t, "MaxPayments of the bank", nil, full, impl.Match{Bank: placesTo(impl.MaxPayments), Difference: -1830})
	for _, other := range [][]impl.Settled{nil, full[:3], full, more, manySettled(impl.MaxList), {{}}, make([]impl.Settled, impl.MaxList)} {
		for _, many := range [][]impl.Settled{more, manySettled(impl.MaxList), make([]impl.Settled, impl.MaxPayments+1)} {
			wantUnmatched(t, "too many of mine", many, other, impl.ErrMany)
			wantUnmatched(t, "too many of the bank", other, many, impl.ErrMany)
		}
		for _, long := range [][]impl.Settled{manySettled(impl.MaxList + 1), make([]impl.Settled, impl.MaxList+1), make([]impl.Settled, 3*impl.MaxList)} {
			wantUnmatched(t, "mine is too long", long, other, impl.ErrLong)
			wantUnmatched(t, "the bank's is too long", other, long, impl.ErrLong)
		}
	}
}

func wrongSettled() []impl.Settled {
	var list []impl.Settled
	for _, id := range textsThatAreNoNames() {
		list = append(list, settled(id, 5))
	}
	for _, amount := range []int{most + 1, -most - 1, math.MaxInt, math.MinInt} {
		list = append(list, settled("a", amount))
	}
	return append(list, impl.Settled{}, settled("", math.MinInt))
}

func TestP12EntriesThatAreWrong(t *testing.T) {
	right := manySettled(4)
	for _, wrong := range wrongSettled() {
		for place := range len(right) + 1 {
			list := slices.Insert(slices.Clone(right), place, wrong)
			for _, other := range [][]impl.Settled{nil, right, list, manySettled(impl.MaxPayments)} {
				wantUnmatched(t, "a wrong one of mine", list, other, impl.ErrBad)
				wantUnmatched(t, "a wrong one of the bank", other, list, impl.ErrBad)
			}
		}
		last := manySettled(impl.MaxPayments)
		last[impl.MaxPayments-1] = wrong
		wantUnmatched(t, "the last one of mine", last, right, impl.ErrBad)
		wantUnmatched(t, "the last one of the bank", right, last, impl.ErrBad)
	}
}

func TestP12IdsAndAmountsAtTheirEnds(t *testing.T) {
	for _, id := range []string{"a", "_", "Z9", "käse", strings.Repeat("n", impl.MaxName), strings.Repeat("ä", impl.MaxName/2)} {
		for _, amount := range []int{-most, -most + 1, -1, 0, 1, most - 1, most} {
			one := settledOf(settled(id, amount))
			wantMatch(t, "paired", one, one, impl.Match{Pairs: pairsOf([2]int{0, 0})})
			wantMatch(t, "mine alone", one, nil, impl.Match{Mine: []int{0}, Difference: amount})
			wantMatch(t, "the bank's alone", nil, one, impl.Match{Bank: []int{0}, Difference: -amount})
		}
	}
	greatest, least := slices.Repeat(settledOf(settled("a", most)), impl.MaxPayments), slices.Repeat(settledOf(settled("a", -most)), impl.MaxPayments)
	wantMatch(t, "as much as can be", greatest, least, impl.Match{Mine: placesTo(60), Bank: placesTo(60), Difference: 120 * most})
	wantMatch(t, "as little as can be", least, greatest, impl.Match{Mine: placesTo(60), Bank: placesTo(60), Difference: -120 * most})
}

// matchByWords pairs entries that are alike by how many of them stand ahead: the first with the first, the second with the second.
func matchByWords(mine, bank []impl.Settled) impl.Match {
	type nth struct {
		entry impl.Settled
		ahead int
	}
	places := map[nth]int{}
	for j, s := range bank {
		places[nth{s, countOf(bank[:j], s)}] = j
	}
	var match impl.Match
	for i, s := range mine {
		match.Difference += s.Amount
		at := nth{s, countOf(mine[:i], s)}
		if j, ok := places[at]; ok {
			match.Pairs = append(match.Pairs, []int{i, j})
			delete(places, at)
		} else {
			match.Mine = append(match.Mine, i)
		}
	}
	for _, j := range places {
		match.Bank = append(match.Bank, j)
	}
	slices.Sort(match.Bank)
	for _, s := range bank {
		match.Difference -= s.Amount
	}
	return match
}

func countOf(list []impl.Settled, like impl.Settled) int {
	count := 0
	for _, s := range list {
		if s == like {
			count++
		}
	}
	return count
}

// someSettled has few Ids and Amounts, so that many entries are alike.
func someSettled(r *rand.Rand, count, ids, amounts int) []impl.Settled {
	names := someNames(ids)
	var list []impl.Settled
	for range count {
		list = append(list, settled(names[r.IntN(ids)], r.IntN(amounts)-amounts/2))
	}
	return list
}

func TestP12LikePlacesOfTheSameCount(t *testing.T) {
	r := fixed()
	for range 4000 {
		ids, amounts := 1+r.IntN(4), 1+r.IntN(4)
		mine, bank := someSettled(r, r.IntN(impl.MaxPayments+1), ids, amounts), someSettled(r, r.IntN(impl.MaxPayments+1), ids, amounts)
		want := matchByWords(mine, bank)
		wantMatch(t, "drawn", mine, bank, want)
		turned, code := impl.Settle(bank, mine)
		if code != impl.OK || turned.Difference != -want.Difference || !slices.Equal(turned.Mine, want.Bank) || !slices.Equal(turned.Bank, want.Mine) || len(turned.Pairs) != len(want.Pairs) {
			t.Fatalf("Settle(%v, %v) = %+v; the other way round %+v", bank, mine, turned, want)
		}
	}
}

func TestP12WhatIsSettledOfOneListIsMatched(t *testing.T) {
	r := fixed()
	for range 1000 {
		mine := someSettled(r, r.IntN(impl.MaxPayments+1), 5, 9)
		bank := slices.Clone(mine)
		r.Shuffle(len(bank), func(i, j int) { bank[i], bank[j] = bank[j], bank[i] })
		match, code := impl.Settle(mine, bank)
		if code != impl.OK || len(match.Pairs) != len(mine) || len(match.Mine) != 0 || len(match.Bank) != 0 || match.Difference != 0 {
			t.Fatalf("Settle(%v, %v) = %+v, %d", mine, bank, match, code)
		}
		wantAllMatched(t, "drawn", mine, bank)
	}
}

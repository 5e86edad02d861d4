package tests

import (
	"math"
	"math/rand/v2"
	"slices"
	"testing"

	"loop.example/g00067/impl"
)

func coinsOf(pairs ...[2]int) []impl.Coins {
	var held []impl.Coins
	for _, pair := range pairs {
		held = append(held, impl.Coins{Value: pair[0], Count: pair[1]})
	}
	return held
}

// manyKinds have the Values 1, 2, 3 and so on.
func manyKinds(count, each int) []impl.Coins {
	var held []impl.Coins
	for i := range count {
		held = append(held, impl.Coins{Value: i + 1, Count: each})
	}
	return held
}

// euroCoins are such that the greatest first does, as long as there are enough of each.
func euroCoins(each int) []impl.Coins {
	var held []impl.Coins
	for _, value := range []int{1, 2, 5, 10, 20, 50, 100, 200, 500, 1000, 2000, 5000} {
		held = append(held, impl.Coins{Value: value, Count: each})
	}
	return held
}

func worthOf(counts []int, held []impl.Coins) (worth, coins int) {
	for i, count := range counts {
		worth += count * held[i].Value
		coins += count
	}
	return worth, coins
}

// wayAhead: fewer coins, or as many with more of the last kind in which they differ.
func wayAhead(a, b []int) bool {
	coinsA, coinsB := 0, 0
	for i := range a {
		coinsA, coinsB = coinsA+a[i], coinsB+b[i]
	}
	if coinsA != coinsB {
		return coinsA < coinsB
	}
	for i := len(a) - 1; i >= 0; i-- {
		if a[i] != b[i] {
			return a[i] > b[i]
		}
	}
	return false
}

// changeByAllWays goes through all ways to take coins.
func changeByAllWays(due int, held []impl.Coins) ([]int, int) {
	var best []int
	found := false
	way := make([]int, len(held))
	var take func(kind int)
	take = func(kind int) {
		if kind == len(held) {
			if worth, _ := worthOf(way, held); worth == due && (!found || wayAhead(way, best)) {
				best, found = slices.Clone(way), true
			}
			return
		}
		for count := range held[kind].Count + 1 {
			way[kind] = count
			take(kind + 1)
		}
		way[kind] = 0
	}
	take(0)
	if !found {
		return nil, impl.ErrNone
	}
	return best, impl.OK
}

// changeCoinByCoin lays down one coin more at a time, and keeps for each sum the way that comes ahead of the others.
func changeCoinByCoin(due int, held []impl.Coins) ([]int, int) {
	ways := make([][]int, due+1)
	ways[0] = make([]int, len(held))
	for kind, coins := range held {
		for range coins.Count {
			for sum := due; sum >= coins.Value; sum-- {
				if ways[sum-coins.Value] == nil {
					continue
				}
				way := slices.Clone(ways[sum-coins.Value])
				way[kind]++
				if ways[sum] == nil || wayAhead(way, ways[sum]) {
					ways[sum] = way
				}
			}
		}
	}
	if ways[due] == nil {
		return nil, impl.ErrNone
	}
	return ways[due], impl.OK
}

func wantChange(t *testing.T, what string, due int, held []impl.Coins, want []int, wantCode int) {
	t.Helper()
	got, code := impl.Change(due, held)
	if code != wantCode || !slices.Equal(got, want) {
		t.Errorf("%s: Change(%d, %v) = %v, %d; want %v, %d", what, due, held, got, code, want, wantCode)
	}
	if code != impl.OK {
		return
	}
	if len(got) != len(held) {
		t.Fatalf("%s: %d counts of %d kinds", what, len(got), len(held))
	}
	for i, count := range got {
		if count < 0 || count > held[i].Count {
			t.Errorf("%s: Change(%d, %v) = %v: more than there are", what, due, held, got)
		}
	}
	if worth, _ := worthOf(got, held); worth != due {
		t.Errorf("%s: Change(%d, %v) = %v comes to %d", what, due, held, got, worth)
	}
}

func wantNoChange(t *testing.T, what string, due int, held []impl.Coins, code int) {
	t.Helper()
	wantChange(t, what, due, held, nil, code)
}

func TestChangeBounds(t *testing.T) {
	got := []int{impl.MaxKinds, impl.MaxCoin, impl.MaxHeld, impl.MaxChange, impl.MaxTenders, impl.TdVoucher, impl.TdCard, impl.TdCash, impl.TdForeign}
	if !slices.Equal(got, []int{12, 100000, 60, 10000, 20, 1, 2, 3, 4}) {
		t.Error("constants", got)
	}
}

func rightHeld() [][]impl.Coins {
	return [][]impl.Coins{
		nil, {}, coinsOf([2]int{1, 0}), coinsOf([2]int{1, 60}), coinsOf([2]int{impl.MaxCoin, 60}), coinsOf([2]int{impl.MaxCoin, 0}), coinsOf([2]int{1, 1}, [2]int{2, 1}), coinsOf([2]int{impl.MaxCoin - 1, 1}, [2]int{impl.MaxCoin, 1}),
		coinsOf([2]int{1, 60}, [2]int{impl.MaxCoin, 60}), manyKinds(impl.MaxKinds, 60), manyKinds(impl.MaxKinds, 0), euroCoins(60), coinsOf([2]int{3, 0}, [2]int{5, 7}, [2]int{8, 0}),
	}
}

func wrongHeld() [][]impl.Coins {
	lists := [][]impl.Coins{
		coinsOf([2]int{0, 1}), coinsOf([2]int{-1, 1}), coinsOf([2]int{impl.MaxCoin + 1, 1}), coinsOf([2]int{1, -1}), coinsOf([2]int{1, 61}), coinsOf([2]int{math.MaxInt, 1}), coinsOf([2]int{1, math.MaxInt}), coinsOf([2]int{math.MinInt, math.MinInt}), make([]impl.Coins, 1),
		coinsOf([2]int{5, 1}, [2]int{5, 1}), coinsOf([2]int{5, 1}, [2]int{4, 1}), coinsOf([2]int{1, 1}, [2]int{7, 1}, [2]int{7, 2}), coinsOf([2]int{1, 1}, [2]int{9, 1}, [2]int{7, 1}), coinsOf([2]int{2, 1}, [2]int{1, 1}, [2]int{3, 1}), coinsOf([2]int{0, 1}, [2]int{1, 1}), coinsOf([2]int{impl.MaxCoin, 1}, [2]int{impl.MaxCoin + 1, 0}),
		manyKinds(impl.MaxKinds+1, 1), manyKinds(impl.MaxList, 1), manyKinds(impl.MaxList+1, 1),
	}
	for at := range impl.MaxKinds {
		for _, coins := range coinsOf([2]int{at, 1}, [2]int{at + 2, 1}, [2]int{at + 1, -1}, [2]int{at + 1, impl.MaxHeld + 1}) {
			if at == impl.MaxKinds-1 && coins.Value > impl.MaxKinds {
				continue // the last kind may be worth more
			}
			held := manyKinds(impl.MaxKinds, 1)
			held[at] = coins
			lists = append(lists, held)
		}
	}
	return lists
}

func TestCoinsThatAreRight(t *testing.T) {
	for _, held := range rightHeld() {
		if !impl.HeldOK(held) {
			t.Errorf("HeldOK(%v): they are right", held)
		}
		wantChange(t, "nothing is due", 0, held, alike(0, len(held)), impl.OK)
	}
}

func TestCoinsThatAreWrong(t *testing.T) {
	for _, held := range wrongHeld() {
		if impl.HeldOK(held) {
			t.Errorf("HeldOK(%.200v): they are wrong", held)
		}
		want := impl.ErrBad
		if len(held) > impl.MaxList {
			want = impl.ErrLong
		}
		for _, due := range []int{0, 1, impl.MaxChange, impl.MaxChange + 1, -1, math.MaxInt, math.MinInt} {
			wantNoChange(t, "coins that are wrong", due, held, want)
		}
	}
}

func TestChangeOutOfRange(t *testing.T) {
	for _, held := range rightHeld() {
		for _, due := range []int{-1, impl.MaxChange + 1, 1000000, math.MinInt, math.MaxInt} {
			wantNoChange(t, "due that is out of range", due, held, impl.ErrRange)
		}
	}
}

func TestP10ChangeByHand(t *testing.T) {
	tale := coinsOf([2]int{1, 1}, [2]int{7, 3}, [2]int{9, 2}, [2]int{30, 1})
	for _, c := range []struct {
		what string
		due  int
		held []impl.Coins
		want []int
	}{
		{"the greatest first takes more", 21, tale, []int{0, 3, 0, 0}}, {"the greatest first fails", 14, tale, []int{0, 2, 0, 0}}, {"all there is", 70, tale, []int{1, 3, 2, 1}},
		{"the greatest first does", 40, tale, []int{1, 0, 1, 1}}, {"one kind", 35, coinsOf([2]int{5, 7}), []int{7}}, {"one coin", 5, coinsOf([2]int{5, 7}), []int{1}},
		{"two fours for a five and ones", 8, coinsOf([2]int{1, 60}, [2]int{4, 60}, [2]int{5, 60}), []int{0, 2, 0}}, {"of fours there is one", 8, coinsOf([2]int{1, 60}, [2]int{4, 1}, [2]int{5, 60}), []int{3, 0, 1}},
		{"a kind of which there is none", 50, coinsOf([2]int{10, 5}, [2]int{50, 0}), []int{5, 0}}, {"a kind that is worth more", 5, coinsOf([2]int{1, 9}, [2]int{6, 9}, [2]int{impl.MaxCoin, 60}), []int{5, 0, 0}},
		{"all kinds of the purse", 8888, euroCoins(1), []int{1, 1, 1, 1, 1, 1, 1, 1, 1, 1, 1, 1}}, {"many of each", 9999, euroCoins(60), []int{0, 2, 1, 0, 2, 1, 0, 2, 1, 0, 2, 1}},
		{"a purse without its greatest", 3999, euroCoins(60)[:9], []int{0, 2, 1, 0, 2, 1, 0, 2, 7}},
	} {
		wantChange(t, c.what, c.due, c.held, c.want, impl.OK)
	}
}

func TestP10OfSeveralWaysTheMostOfTheLastKind(t *testing.T) {
	for _, c := range []struct {
		what string
		due  int
		held []impl.Coins
		want []int
	}{
		{"3 and 1 or 2 and 2", 4, coinsOf([2]int{1, 9}, [2]int{2, 9}, [2]int{3, 9}), []int{1, 0, 1}},
		{"4 and 2 or 3 and 3", 6, coinsOf([2]int{2, 9}, [2]int{3, 9}, [2]int{4, 9}), []int{1, 0, 1}},
		{"without the 4", 6, coinsOf([2]int{2, 9}, [2]int{3, 9}, [2]int{4, 0}), []int{0, 2, 0}},
		{"5 and 1, 4 and 2 or 3 and 3", 6, manyKinds(5, 9), []int{1, 0, 0, 0, 1}},
		{"without a 1", 6, append(coinsOf([2]int{1, 0}), manyKinds(5, 9)[1:]...), []int{0, 1, 0, 1, 0}},
		{"as many of the last, the most of the kind ahead", 15, coinsOf([2]int{1, 9}, [2]int{2, 9}, [2]int{3, 9}, [2]int{11, 1}), []int{1, 0, 1, 1}},
		{"more of the last and of the first, none between", 10, coinsOf([2]int{1, 9}, [2]int{4, 9}, [2]int{7, 9}), []int{3, 0, 1}},
		{"one of each or three of the middle", 12, coinsOf([2]int{1, 9}, [2]int{4, 9}, [2]int{7, 9}), []int{1, 1, 1}},
		{"three of the middle alone", 12, coinsOf([2]int{1, 0}, [2]int{4, 9}, [2]int{7, 9}), []int{0, 3, 0}},
	} {
		wantChange(t, c.what, c.due, c.held, c.want, impl.OK)
		if want, _ := changeByAllWays(c.due, c.held); !slices.Equal(want, c.want) {
			t.Errorf("%s: all ways tell %v", c.what, want)
		}
	}
}

func TestP10WhatCanNotBeMade(t *testing.T) {
	for _, c := range []struct {
		what string
		due  int
		held []impl.Coins
	}{
		{"no coins", 1, nil}, {"no coins, and very much", impl.MaxChange, []impl.Coins{}}, {"kinds of which there is none", 1, manyKinds(impl.MaxKinds, 0)},
		{"one more than all", 71, coinsOf([2]int{1, 1}, [2]int{7, 3}, [2]int{9, 2}, [2]int{30, 1})}, {"one coin too few", 8, coinsOf([2]int{2, 3})}, {"sixty of one", 61, coinsOf([2]int{1, impl.MaxHeld})},
		{"evens make no odd", 9999, coinsOf([2]int{2, 60}, [2]int{100, 60}, [2]int{5000, 60})}, {"less than the least", 4, coinsOf([2]int{5, 60}, [2]int{10, 60})}, {"5 and 7 make no 23", 23, coinsOf([2]int{5, 60}, [2]int{7, 60})},
		{"just below a coin", impl.MaxChange, coinsOf([2]int{impl.MaxChange + 1, 60}, [2]int{impl.MaxCoin, 60})}, {"a gap in the midst", 3, coinsOf([2]int{1, 1}, [2]int{7, 3}, [2]int{9, 2})},
	} {
		wantNoChange(t, c.what, c.due, c.held, impl.ErrNone)
	}
	wantChange(t, "5 and 7 make 24", 24, coinsOf([2]int{5, 60}, [2]int{7, 60}), []int{2, 2}, impl.OK)
}

func TestP10EdgesOfChange(t *testing.T) {
	wantChange(t, "sixty of one", 60, coinsOf([2]int{1, impl.MaxHeld}), []int{60}, impl.OK)
	wantChange(t, "a coin of the most that may be due", impl.MaxChange, coinsOf([2]int{1, 60}, [2]int{impl.MaxChange, 60}), []int{0, 1}, impl.OK)
	wantChange(t, "nothing due of the dearest", 0, coinsOf([2]int{impl.MaxCoin, 60}), []int{0}, impl.OK)
	wantChange(t, "the most coins in all", 4680, manyKinds(impl.MaxKinds, impl.MaxHeld), alike(60, impl.MaxKinds), impl.OK)
	wantNoChange(t, "one more", 4681, manyKinds(impl.MaxKinds, impl.MaxHeld), impl.ErrNone)
	wantChange(t, "one less", 4679, manyKinds(impl.MaxKinds, impl.MaxHeld), append([]int{59}, alike(60, impl.MaxKinds-1)...), impl.OK)
	wantChange(t, "no kinds", 0, nil, nil, impl.OK)
	wantChange(t, "two halves of the most", impl.MaxChange, coinsOf([2]int{impl.MaxChange/2 - 1, 60}, [2]int{impl.MaxChange / 2, 2}), []int{0, 2}, impl.OK)
	wantNoChange(t, "one half of it", impl.MaxChange, coinsOf([2]int{impl.MaxChange/2 - 1, 60}, [2]int{impl.MaxChange / 2, 1}), impl.ErrNone)
}

// someCoins have Values that lie close, so that there are many ways.
func someCoins(r *rand.Rand, kinds, gap, most int) []impl.Coins {
	var held []impl.Coins
	value := 0
	for range kinds {
		value += 1 + r.IntN(gap)
		held = append(held, impl.Coins{Value: value, Count: r.IntN(most + 1)})
	}
	return held
}

func TestP10NoOtherWayHasFewerCoins(t *testing.T) {
	r := fixed()
	made, not := 0, 0
	for range 4000 {
		kinds := r.IntN(6)
		held := someCoins(r, kinds, []int{2, 5, 12}[r.IntN(3)], 4)
		all, _ := worthOf(alike(4, kinds), held)
		due := r.IntN(all + 2)
		want, code := changeByAllWays(due, held)
		wantChange(t, "all ways", due, held, want, code)
		if code == impl.OK {
			made++
		} else {
			not++
		}
	}
	if made < 500 || not < 500 {
		t.Error("too few draws of one kind", made, not)
	}
}

func TestP10ManyKindsCoinByCoin(t *testing.T) {
	r := fixed()
	for range 150 {
		kinds := 1 + r.IntN(impl.MaxKinds)
		held := someCoins(r, kinds, []int{3, 20, 90}[r.IntN(3)], []int{3, 12}[r.IntN(2)])
		due := r.IntN(1200)
		want, code := changeCoinByCoin(due, held)
		wantChange(t, "coin by coin", due, held, want, code)
	}
	for range 4 {
		held := someCoins(r, impl.MaxKinds, 60, impl.MaxHeld)
		due := impl.MaxChange - r.IntN(50)
		want, code := changeCoinByCoin(due, held)
		wantChange(t, "the most that may be due", due, held, want, code)
	}
}

func TestP10AKindMoreNeverTakesMoreCoins(t *testing.T) {
	r := fixed()
	for range 200 {
		held := someCoins(r, impl.MaxKinds, 30, 8)
		ahead, code := impl.Change(700, held[:len(held)-1])
		if code != impl.OK {
			continue
		}
		now, code := impl.Change(700, held)
		_, before := worthOf(ahead, held)
		if _, coins := worthOf(now, held); code != impl.OK || coins > before {
			t.Errorf("Change(700, %v) = %v, %d; without the last kind %v", held, now, code, ahead)
		}
	}
}

package tests

import (
	"math"
	"slices"
	"testing"

	"loop.example/g00067/impl"
)

func sameLedger(a, b impl.Ledger) bool {
	return slices.Equal(a.Cards, b.Cards) && slices.Equal(a.Coupons, b.Coupons) && slices.Equal(a.Refused, b.Refused)
}

func cardOf(name string, loaded, spent int) impl.Card {
	return impl.Card{Name: name, Left: loaded - spent, Loaded: loaded, Spent: spent}
}

func wantLedger(t *testing.T, what string, list []impl.Event, want impl.Ledger) {
	t.Helper()
	got, code := impl.LedgerOf(list)
	if code != impl.OK || !sameLedger(got, want) {
		t.Errorf("%s: LedgerOf(%.300v) = %+v, %d; want %+v", what, list, got, code, want)
	}
	wantLedgerKept(t, what, list)
}

// wantLedgerKept goes through the list one more event at a time: no card has less than nothing, no coupon is used twice, what is refused changes nothing but that its card is there, and what was told does not hang on later events.
func wantLedgerKept(t *testing.T, what string, list []impl.Event) {
	t.Helper()
	var ahead impl.Ledger
	for i, e := range list {
		now, code := impl.LedgerOf(list[:i+1])
		if code != impl.OK {
			t.Fatalf("%s: the first %d of %.300v have the code %d", what, i+1, list, code)
		}
		for _, c := range now.Cards {
			if c.Left < 0 || c.Left != c.Loaded-c.Spent || c.Spent < 0 {
				t.Fatalf("%s: behind event %d of %.300v there is %+v", what, i, list, c)
			}
		}
		if len(slices.Compact(slices.Sorted(slices.Values(now.Coupons)))) != len(now.Coupons) {
			t.Fatalf("%s: behind event %d of %.300v a coupon is used twice: %v", what, i, list, now.Coupons)
		}
		if want := ledgerWith(ahead, e, i, slices.Contains(now.Refused, i)); !sameLedger(now, want) {
			t.Fatalf("%s: event %d of %.300v makes %+v of %+v; want %+v", what, i, list, now, ahead, want)
		}
		ahead = now
	}
}

// ledgerWith does an event, or refuses it; it does not ask which is right.
func ledgerWith(l impl.Ledger, e impl.Event, place int, refused bool) impl.Ledger {
	l = impl.Ledger{Cards: slices.Clone(l.Cards), Coupons: slices.Clone(l.Coupons), Refused: slices.Clone(l.Refused)}
	if refused {
		l.Refused = append(l.Refused, place)
	}
	if e.Kind == impl.EvCoupon {
		if !refused {
			l.Coupons = append(l.Coupons, e.Card)
		}
		return l
	}
	at := slices.IndexFunc(l.Cards, func(c impl.Card) bool { return c.Name == e.Card })
	if at < 0 {
		at, l.Cards = len(l.Cards), append(l.Cards, impl.Card{Name: e.Card})
	}
	switch {
	case refused:
	case e.Kind == impl.EvLoad:
		l.Cards[at] = cardOf(e.Card, l.Cards[at].Loaded+e.Amount, l.Cards[at].Spent)
	default:
		l.Cards[at] = cardOf(e.Card, l.Cards[at].Loaded, l.Cards[at].Spent+e.Amount)
	}
	return l
}

// ledgerByWords asks for each event anew what all those ahead of it come to.
func ledgerByWords(list []impl.Event) impl.Ledger {
	refused := map[int]bool{}
	sum := func(kind, until int, card string) int {
		total := 0
		for i, e := range list[:until] {
			if e.Kind == kind && e.Card == card && !refused[i] {
				total += e.Amount
			}
		}
		return total
	}
	var ledger impl.Ledger
	var cards []string
	for i, e := range list {
		switch e.Kind {
		case 2:
			refused[i] = e.Amount > sum(1, i, e.Card)-sum(2, i, e.Card)
		case 3:
			refused[i] = slices.ContainsFunc(list[:i], func(other impl.Event) bool { return other.Kind == 3 && other.Card == e.Card })
			if !refused[i] {
				ledger.Coupons = append(ledger.Coupons, e.Card)
			}
		}
		if refused[i] {
			ledger.Refused = append(ledger.Refused, i)
		}
		if e.Kind != 3 && !slices.Contains(cards, e.Card) {
			cards = append(cards, e.Card)
		}
	}
	for _, name := range cards {
		loaded, spent := sum(1, len(list), name), sum(2, len(list), name)
		ledger.Cards = append(ledger.Cards, impl.Card{Name: name, Left: loaded - spent, Loaded: loaded, Spent: spent})
	}
	return ledger
}

func TestP13NoEventsNoLedger(t *testing.T) {
	for _, none := range [][]impl.Event{nil, {}} {
		wantLedger(t, "none", none, impl.Ledger{})
	}
}

func TestP13CardsAreLoadedAndSpent(t *testing.T) {
	load := loadAt(1, 1, 0, "c", 50)
	for _, c := range []struct {
		what string
		list []impl.Event
		want impl.Ledger
	}{
		{"loaded", logOf(load), impl.Ledger{Cards: []impl.Card{cardOf("c", 50, 0)}}},
		{"loaded by two shops", logOf(load, loadAt(2, 1, 0, "c", 7)), impl.Ledger{Cards: []impl.Card{cardOf("c", 57, 0)}}},
		{"spent in part", logOf(load, spendAt(2, 1, 1, "c", 49)), impl.Ledger{Cards: []impl.Card{cardOf("c", 50, 49)}}},
		{"spent whole", logOf(load, spendAt(2, 1, 1, "c", 50)), impl.Ledger{Cards: []impl.Card{cardOf("c", 50, 50)}}},
		{"spent one more", logOf(load, spendAt(2, 1, 1, "c", 51)), impl.Ledger{Cards: []impl.Card{cardOf("c", 50, 0)}, Refused: []int{1}}},
		{"spent in two parts", logOf(load, spendAt(2, 1, 1, "c", 30), spendAt(3, 1, 2, "c", 20)), impl.Ledger{Cards: []impl.Card{cardOf("c", 50, 50)}}},
		{"spent in two parts, one more", logOf(load, spendAt(2, 1, 1, "c", 30), spendAt(3, 1, 2, "c", 21)), impl.Ledger{Cards: []impl.Card{cardOf("c", 50, 30)}, Refused: []int{2}}},
		{"what is refused leaves all to a later one", logOf(load, spendAt(2, 1, 1, "c", 51), spendAt(2, 2, 2, "c", 50)), impl.Ledger{Cards: []impl.Card{cardOf("c", 50, 50)}, Refused: []int{1}}},
		{"spent twice", logOf(load, spendAt(2, 1, 1, "c", 50), spendAt(3, 1, 1, "c", 50)), impl.Ledger{Cards: []impl.Card{cardOf("c", 50, 50)}, Refused: []int{2}}},
		{"when nothing is left", logOf(load, spendAt(2, 1, 1, "c", 50), spendAt(2, 2, 1, "c", 1)), impl.Ledger{Cards: []impl.Card{cardOf("c", 50, 50)}, Refused: []int{2}}},
		{"loaded again", logOf(load, spendAt(2, 1, 1, "c", 50), loadAt(1, 2, 2, "c", 5), spendAt(2, 2, 3, "c", 5)), impl.Ledger{Cards: []impl.Card{cardOf("c", 55, 55)}}},
		{"what is loaded later does not count yet", logOf(spendAt(2, 1, 0, "c", 1), loadAt(1, 1, 1, "c", 50)), impl.Ledger{Cards: []impl.Card{cardOf("c", 50, 0)}, Refused: []int{0}}},
		{"what another card has does not count", logOf(load, spendAt(2, 1, 1, "C", 1)), impl.Ledger{Cards: []impl.Card{cardOf("c", 50, 0), cardOf("C", 0, 0)}, Refused: []int{1}}},
		{"the most", logOf(loadAt(1, 1, 0, "c", impl.MaxCost), spendAt(2, 1, 1, "c", impl.MaxCost)), impl.Ledger{Cards: []impl.Card{cardOf("c", impl.MaxCost, impl.MaxCost)}}},
		{"the least", logOf(loadAt(1, 1, 0, "c", 1), spendAt(2, 1, 1, "c", 1), spendAt(2, 2, 1, "c", 1)), impl.Ledger{Cards: []impl.Card{cardOf("c", 1, 1)}, Refused: []int{2}}},
	} {
		wantLedger(t, c.what, c.list, c.want)
	}
	var most []impl.Event
	for i := range impl.MaxEvents {
		most = append(most, loadAt(1, 1+i, i, "c", impl.MaxCost))
	}
	wantLedger(t, "more than a price may be", most, impl.Ledger{Cards: []impl.Card{cardOf("c", 120000000, 0)}})
}

func TestP13TheOrderOfCards(t *testing.T) {
	wantLedger(t, "by what comes first", logOf(loadAt(1, 1, 0, "m", 1), loadAt(1, 2, 1, "a", 1), loadAt(1, 3, 2, "z", 1), loadAt(1, 4, 3, "a", 1), loadAt(1, 5, 4, "m", 1)),
		impl.Ledger{Cards: []impl.Card{cardOf("m", 2, 0), cardOf("a", 2, 0), cardOf("z", 1, 0)}})
	wantLedger(t, "a spend that is refused among it", logOf(spendAt(1, 1, 0, "z", 1), loadAt(1, 2, 1, "a", 1), spendAt(1, 3, 2, "m", 1), loadAt(1, 4, 3, "z", 9)),
		impl.Ledger{Cards: []impl.Card{cardOf("z", 9, 0), cardOf("a", 1, 0), cardOf("m", 0, 0)}, Refused: []int{0, 2}})
	wantLedger(t, "a card that is refused alone", logOf(spendAt(1, 1, 0, "z", 1), spendAt(1, 2, 1, "z", 1)), impl.Ledger{Cards: []impl.Card{cardOf("z", 0, 0)}, Refused: []int{0, 1}})
	wantLedger(t, "a coupon is none", logOf(couponAt(1, 1, 0, "z"), loadAt(1, 2, 1, "a", 1), loadAt(1, 3, 2, "z", 1)),
		impl.Ledger{Cards: []impl.Card{cardOf("a", 1, 0), cardOf("z", 1, 0)}, Coupons: []string{"z"}})
	var list []impl.Event
	var want impl.Ledger
	for i, name := range someNames(impl.MaxEvents) {
		list = append(list, loadAt(1+i%9, 1+i/9, i, name, 1+i))
		want.Cards = append(want.Cards, cardOf(name, 1+i, 0))
	}
	wantLedger(t, "MaxEvents cards", list, want)
}

func TestP13CouponsAreUsedOnce(t *testing.T) {
	wantLedger(t, "one", logOf(couponAt(1, 1, 0, "ten")), impl.Ledger{Coupons: []string{"ten"}})
	wantLedger(t, "twice", logOf(couponAt(1, 1, 0, "ten"), couponAt(1, 2, 0, "ten")), impl.Ledger{Coupons: []string{"ten"}, Refused: []int{1}})
	wantLedger(t, "by two shops", logOf(couponAt(1, 1, 5, "ten"), couponAt(2, 1, 5, "ten"), couponAt(9, 1, 6, "ten")), impl.Ledger{Coupons: []string{"ten"}, Refused: []int{1, 2}})
	wantLedger(t, "several, as they were used", logOf(couponAt(1, 1, 0, "z"), couponAt(2, 1, 0, "a"), couponAt(3, 1, 0, "z"), couponAt(4, 1, 0, "m"), couponAt(5, 1, 0, "A")), impl.Ledger{Coupons: []string{"z", "a", "m", "A"}, Refused: []int{2}})
	wantLedger(t, "with the name of a card", logOf(loadAt(1, 1, 0, "c", 5), couponAt(1, 2, 1, "c"), spendAt(1, 3, 2, "c", 5), couponAt(1, 4, 3, "c")),
		impl.Ledger{Cards: []impl.Card{cardOf("c", 5, 5)}, Coupons: []string{"c"}, Refused: []int{3}})
	wantLedger(t, "with the name of a card that is refused", logOf(spendAt(1, 1, 0, "c", 5), couponAt(1, 2, 1, "c")), impl.Ledger{Cards: []impl.Card{cardOf("c", 0, 0)}, Coupons: []string{"c"}, Refused: []int{0}})
	var once, always []impl.Event
	for i, name := range someNames(impl.MaxEvents) {
		once, always = append(once, couponAt(1, 1+i, i, name)), append(always, couponAt(1, 1+i, i, "ten"))
	}
	wantLedger(t, "MaxEvents coupons", once, impl.Ledger{Coupons: someNames(impl.MaxEvents)})
	wantLedger(t, "one coupon, MaxEvents times", always, impl.Ledger{Coupons: []string{"ten"}, Refused: placesTo(impl.MaxEvents)[1:]})
}

func TestP13TheMixedLog(t *testing.T) {
	wantLedger(t, "of all kinds", mixedLog(), impl.Ledger{Cards: []impl.Card{cardOf("käse", 40, 0), cardOf("c", 50, 50)}, Coupons: []string{"ten", "c", "käse"}, Refused: []int{0, 4, 7}})
}

func TestP13LedgersLikeSumsOfAllAhead(t *testing.T) {
	r := fixed()
	refused := 0
	for range 1500 {
		list := someHistory(r, r.IntN(impl.MaxEvents+1), 1+r.IntN(9))
		want := ledgerByWords(list)
		got, code := impl.LedgerOf(list)
		if code != impl.OK || !sameLedger(got, want) {
			t.Fatalf("LedgerOf(%v) = %+v, %d; want %+v", list, got, code, want)
		}
		refused += len(got.Refused)
	}
	for range 40 {
		wantLedgerKept(t, "drawn", someHistory(r, impl.MaxEvents, 9))
	}
	if refused < 1000 {
		t.Error("too little of what is drawn is refused", refused)
	}
}

func wantMissed(t *testing.T, what string, list []impl.Event, shop, want, wantCode int) {
	t.Helper()
	if seq, code := impl.Missed(list, shop); seq != want || code != wantCode {
		t.Errorf("%s: Missed(%.300v, %d) = %d, %d; want %d, %d", what, list, shop, seq, code, want, wantCode)
	}
}

// seqsOf has events of one shop with these Seqs.
func seqsOf(shop int, seqs ...int) []impl.Event {
	var list []impl.Event
	for i, seq := range seqs {
		list = append(list, couponAt(shop, seq, i, "x"))
	}
	return list
}

func TestP13WhatIsMissed(t *testing.T) {
	for _, shop := range []int{1, 2, 9} {
		wantMissed(t, "nothing, of one", seqsOf(shop, 1), shop, 0, impl.ErrNone)
		wantMissed(t, "nothing, of four", seqsOf(shop, 1, 2, 3, 4), shop, 0, impl.ErrNone)
		wantMissed(t, "nothing, of all", manyLoads(shop, 1, 120), shop, 0, impl.ErrNone)
		wantMissed(t, "the first", seqsOf(shop, 2), shop, 1, impl.OK)
		wantMissed(t, "the first, and another", seqsOf(shop, 2, 3, 5), shop, 1, impl.OK)
		wantMissed(t, "all but the last", seqsOf(shop, 120), shop, 1, impl.OK)
		wantMissed(t, "one in between", seqsOf(shop, 1, 2, 4, 5), shop, 3, impl.OK)
		wantMissed(t, "several in between", seqsOf(shop, 1, 2, 7, 9), shop, 3, impl.OK)
		wantMissed(t, "the last but one", append(manyLoads(shop, 1, 118), loadAt(shop, 120, 999, "c", 1)), shop, 119, impl.OK)
		for _, none := range []int{math.MinInt, -1, 0, 3, 8, 10, 257, math.MaxInt} {
			wantMissed(t, "of a shop without events", seqsOf(shop, 1, 3), none, 0, impl.ErrNone)
			wantMissed(t, "of no events", nil, none, 0, impl.ErrNone)
		}
		wantMissed(t, "of no events", nil, shop, 0, impl.ErrNone)
	}
	both := logOf(couponAt(1, 1, 0, "x"), couponAt(2, 2, 0, "x"), couponAt(1, 2, 1, "x"), couponAt(3, 1, 1, "x"), couponAt(1, 4, 2, "x"), couponAt(3, 2, 2, "x"))
	wantMissed(t, "among others", both, 1, 3, impl.OK)
	wantMissed(t, "among others", both, 2, 1, impl.OK)
	wantMissed(t, "among others, nothing", both, 3, 0, impl.ErrNone)
}

// What was missed is missed no more when it is merged.
func TestP13WhatIsMissedLikeASearch(t *testing.T) {
	r := fixed()
	seen := map[int]int{}
	for range 2000 {
		all := someHistory(r, r.IntN(80), 1+r.IntN(9))
		list := someOf(r, all, 3+r.IntN(20))
		for shop := range 11 {
			has := map[int]bool{}
			for _, e := range list {
				if e.Shop == shop {
					has[e.Seq] = true
				}
			}
			want, wantCode, later := 0, impl.ErrNone, false
			for seq := 120; seq >= 1; seq-- {
				if !has[seq] && later {
					want, wantCode = seq, impl.OK
				}
				later = later || has[seq]
			}
			wantMissed(t, "drawn", list, shop, want, wantCode)
			seen[wantCode]++
			if merged, code := impl.MergeEvents(list, all); code == impl.OK {
				before, _ := impl.Missed(all, shop)
				wantMissed(t, "merged", merged, shop, before, map[bool]int{true: impl.ErrNone, false: impl.OK}[before == 0])
			}
		}
	}
	if seen[impl.OK] < 1000 || seen[impl.ErrNone] < 1000 {
		t.Error("nearly always something is missed, or nearly never", seen)
	}
}

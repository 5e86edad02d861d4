package tests

import (
	"math"
	"math/rand/v2"
	"slices"
	"strings"
	"testing"

	"loop.example/g00067/impl"
)

func loadAt(shop, seq, time int, card string, amount int) impl.Event {
	return impl.Event{Shop: shop, Seq: seq, Time: time, Kind: impl.EvLoad, Card: card, Amount: amount}
}

func spendAt(shop, seq, time int, card string, amount int) impl.Event {
	return impl.Event{Shop: shop, Seq: seq, Time: time, Kind: impl.EvSpend, Card: card, Amount: amount}
}

func couponAt(shop, seq, time int, name string) impl.Event {
	return impl.Event{Shop: shop, Seq: seq, Time: time, Kind: impl.EvCoupon, Card: name}
}

func logOf(events ...impl.Event) []impl.Event { return events }

// manyLoads are those of one shop, a Seq and a Time more each, both from first on.
func manyLoads(shop, first, count int) []impl.Event {
	var list []impl.Event
	for i := range count {
		list = append(list, loadAt(shop, first+i, first+i, "c", 1+i))
	}
	return list
}

// fullLog is right and has MaxEvents events.
func fullLog() []impl.Event { return manyLoads(1, 1, impl.MaxEvents) }

// mixedLog is right: it has cards and coupons of several shops, gaps in their Seqs, events of one Time, and some that are refused.
func mixedLog() []impl.Event {
	return logOf(
		spendAt(2, 1, 0, "käse", 5), loadAt(1, 1, 3, "c", 50), loadAt(2, 2, 3, "käse", 40), couponAt(2, 3, 3, "ten"), couponAt(9, 120, 3, "ten"),
		spendAt(1, 3, 7, "c", 30), couponAt(1, 4, 8, "c"), spendAt(2, 7, 9, "c", 21), spendAt(3, 2, 9, "c", 20), couponAt(3, 3, impl.MaxTime, "käse"),
	)
}

func wrongLogEvents() []impl.Event {
	events := logOf(impl.Event{}, couponAt(1, 1, 0, ""), couponAt(0, 0, 0, "c"))
	for _, n := range []int{math.MinInt, -1, 0, impl.MaxShops + 1, 257, math.MaxInt} {
		events = append(events, loadAt(n, 5, 5, "c", 5), couponAt(n, 5, 5, "c"))
	}
	for _, n := range []int{math.MinInt, -1, 0, impl.MaxEvents + 1, math.MaxInt} {
		events = append(events, loadAt(1, n, 5, "c", 5), couponAt(1, n, 5, "c"))
	}
	for _, n := range []int{math.MinInt, -1, impl.MaxTime + 1, math.MaxInt} {
		events = append(events, loadAt(1, 5, n, "c", 5), couponAt(1, 5, n, "c"))
	}
	for _, text := range textsThatAreNoNames() {
		events = append(events, loadAt(1, 5, 5, text, 5), spendAt(1, 5, 5, text, 5), couponAt(1, 5, 5, text))
	}
	for _, n := range []int{math.MinInt, -1, 0, impl.EvCoupon + 1, 257, math.MaxInt} {
		events = append(events, impl.Event{Shop: 1, Seq: 5, Time: 5, Kind: n, Card: "c", Amount: 5}, impl.Event{Shop: 1, Seq: 5, Time: 5, Kind: n, Card: "c"})
	}
	for _, n := range []int{math.MinInt, -1, 0, impl.MaxCost + 1, math.MaxInt} {
		events = append(events, loadAt(1, 5, 5, "c", n), spendAt(1, 5, 5, "c", n))
	}
	for _, n := range []int{math.MinInt, -1, 1, impl.MaxCost, math.MaxInt} {
		events = append(events, impl.Event{Shop: 1, Seq: 5, Time: 5, Kind: impl.EvCoupon, Card: "c", Amount: n})
	}
	return events
}

func rightLogEvents() []impl.Event {
	var events []impl.Event
	for shop := 1; shop <= 9; shop++ {
		events = append(events, loadAt(shop, 5, 5, "c", 5), couponAt(shop, 5, 5, "c"))
	}
	for _, seq := range []int{1, 2, 119, 120} {
		events = append(events, loadAt(1, seq, 5, "c", 5), spendAt(9, seq, 5, "c", 5))
	}
	for _, time := range []int{0, 1, 999999999, 1000000000} {
		events = append(events, loadAt(1, 5, time, "c", 5), couponAt(9, 120, time, "c"))
	}
	for _, name := range []string{"a", "_", "Z9", "käse", strings.Repeat("n", impl.MaxName), strings.Repeat("ä", impl.MaxName/2)} {
		events = append(events, loadAt(1, 5, 5, name, 5), spendAt(1, 5, 5, name, 5), couponAt(1, 5, 5, name))
	}
	for _, amount := range []int{1, 2, 999999, 1000000} {
		events = append(events, loadAt(1, 5, 5, "c", amount), spendAt(1, 5, 5, "c", amount))
	}
	return events
}

func rightLogs() [][]impl.Event {
	lists := [][]impl.Event{
		nil, {}, mixedLog(), fullLog(), manyLoads(9, 1, 120),
		logOf(loadAt(1, 1, 5, "c", 1), loadAt(2, 1, 5, "c", 1), loadAt(9, 1, 5, "c", 1)),   // of one Time, told apart by Shop
		logOf(loadAt(4, 1, 5, "c", 1), loadAt(4, 2, 5, "c", 1), loadAt(4, 120, 5, "c", 1)), // of one Time and Shop, told apart by Seq
		logOf(loadAt(9, 120, 4, "c", 1), loadAt(1, 1, 5, "c", 1)),                          // Time comes first
		logOf(loadAt(1, 120, 5, "c", 1), loadAt(2, 1, 5, "c", 1)),                          // then Shop
		logOf(loadAt(2, 9, 4, "c", 1), loadAt(1, 1, 5, "c", 1), loadAt(2, 10, 5, "c", 1), loadAt(1, 2, 6, "c", 1)),
	}
	for _, e := range rightLogEvents() {
		lists = append(lists, logOf(e))
	}
	return lists
}

// wrongLogs are lists that are not right, none of them beyond MaxList.
func wrongLogs() [][]impl.Event {
	a, b := loadAt(1, 1, 5, "c", 1), loadAt(2, 1, 5, "c", 1)
	lists := [][]impl.Event{
		append(fullLog(), loadAt(2, 1, 121, "c", 1)), append(logOf(couponAt(9, 1, 0, "x")), fullLog()...), make([]impl.Event, impl.MaxEvents+1), make([]impl.Event, impl.MaxList), slices.Repeat(fullLog(), 34),
		logOf(a, a), logOf(a, b, b), logOf(a, a, b), slices.Repeat(logOf(a), impl.MaxEvents),
		logOf(a, loadAt(1, 1, 5, "c", 2)), logOf(a, couponAt(1, 1, 5, "x")), // alike in Time, Shop and Seq alone
		logOf(loadAt(1, 1, 6, "c", 1), loadAt(2, 1, 5, "c", 1)), // out of order by Time
		logOf(b, a),                                             // by Shop
		logOf(loadAt(1, 2, 5, "c", 1), a),                       // by Seq
		logOf(a, loadAt(1, 1, 6, "c", 1)),                       // a Seq that does not rise
		logOf(loadAt(1, 2, 5, "c", 1), loadAt(1, 1, 6, "c", 1)), // a Seq that falls
		logOf(loadAt(1, 2, 5, "c", 1), b, loadAt(3, 1, 5, "c", 1), loadAt(1, 1, 6, "c", 1)),
		logOf(loadAt(1, 1, 1, "c", 1), loadAt(1, 3, 2, "c", 1), loadAt(2, 4, 3, "c", 1), loadAt(1, 2, 4, "c", 1)),
		logOf(loadAt(9, 120, 1, "c", 1), loadAt(9, 120, 2, "c", 1)),
	}
	for _, wrong := range wrongLogEvents() {
		lists = append(lists, logOf(wrong), logOf(wrong, loadAt(9, 1, impl.MaxTime, "c", 1)), logOf(loadAt(1, 1, 0, "c", 1), wrong), append(manyLoads(1, 1, impl.MaxEvents-1), wrong))
	}
	return lists
}

func eventByWords(e impl.Event) bool {
	amounts := map[int][2]int{1: {1, 1000000}, 2: {1, 1000000}, 3: {0, 0}}
	amount, known := amounts[e.Kind]
	return known && amount[0] <= e.Amount && e.Amount <= amount[1] && 1 <= e.Shop && e.Shop <= 9 && 1 <= e.Seq && e.Seq <= 120 && 0 <= e.Time && e.Time <= 1000000000 && impl.NameOK(e.Card)
}

// inOrder holds lists of numbers against each other, which are ordered as events are.
func inOrder(a, b impl.Event) int {
	return slices.Compare([]int{a.Time, a.Shop, a.Seq}, []int{b.Time, b.Shop, b.Seq})
}

// logByWords holds each event against all that stand behind it.
func logByWords(list []impl.Event) bool {
	if len(list) > 120 {
		return false
	}
	for i, e := range list {
		if !eventByWords(e) {
			return false
		}
		for _, later := range list[i+1:] {
			if inOrder(e, later) >= 0 || e.Shop == later.Shop && e.Seq >= later.Seq {
				return false
			}
		}
	}
	return true
}

// someHistory is right: few Times, so that many events have one, and now and then a Seq that is missing.
func someHistory(r *rand.Rand, count, shops int) []impl.Event {
	var list []impl.Event
	seqs, time := map[int]int{}, r.IntN(3)
	cards := someNames(1 + r.IntN(4))
	for len(list) < count {
		shop := 1 + r.IntN(shops)
		seqs[shop]++
		if r.IntN(8) == 0 && count < 60 {
			seqs[shop]++
		}
		e := impl.Event{Shop: shop, Seq: seqs[shop], Time: time, Kind: 1 + r.IntN(3), Card: cards[r.IntN(len(cards))]}
		if e.Kind != impl.EvCoupon {
			e.Amount = 1 + r.IntN(9)
		}
		list = append(list, e)
		time += r.IntN(3) / 2
	}
	slices.SortFunc(list, inOrder)
	return list
}

// someOf leaves out events, one in so many.
func someOf(r *rand.Rand, list []impl.Event, one int) []impl.Event {
	return slices.DeleteFunc(slices.Clone(list), func(impl.Event) bool { return r.IntN(one) == 0 })
}

func TestEventBounds(t *testing.T) {
	got := []int{impl.EvLoad, impl.EvSpend, impl.EvCoupon, impl.MaxShops, impl.MaxEvents, impl.MaxTime, impl.MaxCost}
	if !slices.Equal(got, []int{1, 2, 3, 9, 120, 1000000000, 1000000}) {
		t.Error("constants", got)
	}
}

func TestP13LogsThatAreRight(t *testing.T) {
	for _, list := range rightLogs() {
		if !impl.EventsOK(list) || !logByWords(list) {
			t.Errorf("EventsOK(%.300v) = %t", list, impl.EventsOK(list))
		}
		if _, code := impl.MergeEvents(list, nil); code != impl.OK {
			t.Errorf("MergeEvents of %.300v and none: %d", list, code)
		}
		if _, code := impl.LedgerOf(list); code != impl.OK {
			t.Errorf("LedgerOf(%.300v): %d", list, code)
		}
		if _, code := impl.Missed(list, 0); code != impl.ErrNone {
			t.Errorf("Missed(%.300v, 0): %d", list, code)
		}
	}
}

func TestP13LogsThatAreWrong(t *testing.T) {
	long := [][]impl.Event{make([]impl.Event, impl.MaxList+1), slices.Repeat(fullLog(), 35), make([]impl.Event, 3*impl.MaxList)}
	for _, list := range append(wrongLogs(), long...) {
		want := impl.ErrBad
		if len(list) > impl.MaxList {
			want = impl.ErrLong
		}
		if impl.EventsOK(list) || logByWords(list) {
			t.Errorf("EventsOK(%.300v) = %t", list, impl.EventsOK(list))
		}
		for _, other := range [][]impl.Event{nil, mixedLog(), fullLog(), list, wrongLogs()[0]} {
			wantNoMerge(t, "a wrong list", list, other, want)
			wantNoMerge(t, "a wrong list", other, list, want)
		}
		if ledger, code := impl.LedgerOf(list); code != want || !sameLedger(ledger, impl.Ledger{}) {
			t.Errorf("LedgerOf(%.300v) = %+v, %d; want %d", list, ledger, code, want)
		}
		for _, shop := range []int{math.MinInt, 0, 1, 2, 9, 10, math.MaxInt} {
			if seq, code := impl.Missed(list, shop); code != want || seq != 0 {
				t.Errorf("Missed(%.300v, %d) = %d, %d; want %d", list, shop, seq, code, want)
			}
		}
	}
}

// What is drawn is changed in one number or place, so that some lists are right and others just are not.
func TestP13LogsLikeEachEventHeldAgainstEachOther(t *testing.T) {
	r := fixed()
	seen := map[bool]int{}
	for range 6000 {
		list := someHistory(r, 1+r.IntN(20), 1+r.IntN(9))
		e, other := &list[r.IntN(len(list))], &list[r.IntN(len(list))]
		switch r.IntN(7) {
		case 0:
			e.Seq += r.IntN(5) - 2
		case 1:
			e.Time += r.IntN(5) - 2
		case 2:
			e.Shop += r.IntN(3) - 1
		case 3:
			e.Kind += r.IntN(3) - 1
		case 4:
			e.Amount = r.IntN(3) - 1
		case 5:
			*e, *other = *other, *e
		}
		want := logByWords(list)
		seen[want]++
		if impl.EventsOK(list) != want {
			t.Fatalf("EventsOK(%v) = %t", list, !want)
		}
	}
	if seen[true] < 1000 || seen[false] < 1000 {
		t.Error("what is drawn is nearly all right, or nearly all wrong", seen)
	}
}

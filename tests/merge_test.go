package tests

import (
	"maps"
	"runtime"
	"slices"
	"testing"
	"time"

	"loop.example/g00067/impl"
)

// wantMerged asks for it whichever list comes first.
func wantMerged(t *testing.T, what string, a, b, want []impl.Event) {
	t.Helper()
	for _, lists := range [][2][]impl.Event{{a, b}, {b, a}} {
		got, code := impl.MergeEvents(lists[0], lists[1])
		if code != impl.OK || !slices.Equal(got, want) {
			t.Errorf("%s: MergeEvents(%.300v, %.300v) = %.300v, %d; want %.300v", what, lists[0], lists[1], got, code, want)
		}
	}
}

func wantNoMerge(t *testing.T, what string, a, b []impl.Event, want int) {
	t.Helper()
	if got, code := impl.MergeEvents(a, b); code != want || len(got) != 0 {
		t.Errorf("%s: MergeEvents(%.300v, %.300v) = %.300v, %d; want %d", what, a, b, got, code, want)
	}
}

// wantOdds asks for a code whichever list comes first; each of them is right.
func wantOdds(t *testing.T, what string, a, b []impl.Event, want int) {
	t.Helper()
	if !impl.EventsOK(a) || !impl.EventsOK(b) {
		t.Errorf("%s: %.300v or %.300v is not right", what, a, b)
	}
	wantNoMerge(t, what, a, b, want)
	wantNoMerge(t, what, b, a, want)
}

// mergeByWords puts all events in a set and sorts it.
func mergeByWords(a, b []impl.Event) ([]impl.Event, int) {
	if len(a) > 4096 || len(b) > 4096 {
		return nil, impl.ErrLong
	}
	if !logByWords(a) || !logByWords(b) {
		return nil, impl.ErrBad
	}
	all, named := map[impl.Event]bool{}, map[[2]int]impl.Event{}
	for _, e := range slices.Concat(a, b) {
		name := [2]int{e.Shop, e.Seq}
		if other, there := named[name]; there && other != e {
			return nil, impl.ErrForm
		}
		named[name], all[e] = e, true
	}
	if len(all) > 120 {
		return nil, impl.ErrMany
	}
	list := slices.SortedFunc(maps.Keys(all), inOrder)
	if !logByWords(list) {
		return nil, impl.ErrState
	}
	return list, impl.OK
}

func TestP13ListsWithoutACommonEvent(t *testing.T) {
	one, two, three, four := loadAt(1, 1, 5, "c", 1), loadAt(2, 1, 6, "c", 2), spendAt(1, 2, 7, "c", 3), couponAt(2, 2, 8, "x")
	wantMerged(t, "in turn", logOf(one, three), logOf(two, four), logOf(one, two, three, four))
	wantMerged(t, "one behind the other", logOf(one, two), logOf(three, four), logOf(one, two, three, four))
	wantMerged(t, "one around the other", logOf(one, four), logOf(two, three), logOf(one, two, three, four))
	wantMerged(t, "one and three", logOf(three), logOf(one, two, four), logOf(one, two, three, four))
	wantMerged(t, "of one Time, by Shop", logOf(loadAt(1, 9, 5, "c", 1), loadAt(3, 8, 5, "c", 1)), logOf(loadAt(2, 7, 5, "c", 1), loadAt(9, 1, 5, "c", 1)), logOf(loadAt(1, 9, 5, "c", 1), loadAt(2, 7, 5, "c", 1), loadAt(3, 8, 5, "c", 1), loadAt(9, 1, 5, "c", 1)))
	wantMerged(t, "of one Time and Shop, by Seq", logOf(loadAt(4, 1, 5, "c", 1), loadAt(4, 3, 5, "c", 1)), logOf(loadAt(4, 2, 5, "c", 1), loadAt(4, 120, 5, "c", 1)), logOf(loadAt(4, 1, 5, "c", 1), loadAt(4, 2, 5, "c", 1), loadAt(4, 3, 5, "c", 1), loadAt(4, 120, 5, "c", 1)))
	wantMerged(t, "Time ahead of Shop, Shop ahead of Seq", logOf(loadAt(9, 1, 0, "c", 1), loadAt(2, 1, impl.MaxTime, "c", 1)), logOf(loadAt(1, 120, impl.MaxTime, "c", 1)), logOf(loadAt(9, 1, 0, "c", 1), loadAt(1, 120, impl.MaxTime, "c", 1), loadAt(2, 1, impl.MaxTime, "c", 1)))
	wantMerged(t, "alike but for the Shop", logOf(loadAt(1, 1, 5, "c", 1)), logOf(loadAt(2, 1, 5, "c", 1)), logOf(loadAt(1, 1, 5, "c", 1), loadAt(2, 1, 5, "c", 1)))
}

func TestP13ListsWithCommonEvents(t *testing.T) {
	all := mixedLog()
	wantMerged(t, "the same list twice", all, mixedLog(), all)
	wantMerged(t, "one event twice", all[:1], all[:1], all[:1])
	for i := range all {
		wantMerged(t, "all but one, and all", slices.Delete(mixedLog(), i, i+1), all, all)
		wantMerged(t, "one, and all", all[i:i+1], all, all)
		wantMerged(t, "one, and all but it", all[i:i+1], slices.Delete(mixedLog(), i, i+1), all)
		for j := i; j <= len(all); j++ {
			wantMerged(t, "a part of it, and all", all[i:j], all, all)
			wantMerged(t, "what comes first, and what comes last", all[:j], all[i:], all)
		}
	}
}

func TestP13NoEventOnEitherSide(t *testing.T) {
	for _, none := range [][]impl.Event{nil, {}} {
		wantMerged(t, "on both", none, none, nil)
		wantMerged(t, "on one", none, mixedLog(), mixedLog())
		wantMerged(t, "on one", none, fullLog(), fullLog())
		wantMerged(t, "on one", none, mixedLog()[:1], mixedLog()[:1])
	}
}

func TestP13EventsOfOneShopAndSeq(t *testing.T) {
	is := loadAt(2, 7, 5, "c", 10)
	ahead, behind := loadAt(2, 6, 1, "c", 1), loadAt(2, 8, 9, "c", 1)
	wantMerged(t, "that are the same", logOf(ahead, is), logOf(is, behind), logOf(ahead, is, behind))
	for what, other := range map[string]impl.Event{
		"another Time":            loadAt(2, 7, 6, "c", 10),
		"a Time ahead":            loadAt(2, 7, 4, "c", 10),
		"another Kind":            spendAt(2, 7, 5, "c", 10),
		"a Kind without Amount":   couponAt(2, 7, 5, "c"),
		"another Card":            loadAt(2, 7, 5, "C", 10),
		"a longer Card":           loadAt(2, 7, 5, "cc", 10),
		"another Amount":          loadAt(2, 7, 5, "c", 11),
		"another in all the rest": spendAt(2, 7, 8, "d", 1),
	} {
		wantOdds(t, what, logOf(is), logOf(other), impl.ErrForm)
		wantOdds(t, what, logOf(ahead, is, behind), logOf(ahead, other, behind), impl.ErrForm)
		wantOdds(t, what, logOf(ahead, is), logOf(other, behind), impl.ErrForm)
		wantOdds(t, what, logOf(loadAt(1, 1, 0, "c", 1), is), logOf(other, loadAt(3, 1, 20, "c", 1)), impl.ErrForm)
	}
	wantMerged(t, "of another Shop", logOf(is), logOf(loadAt(3, 7, 5, "c", 11)), logOf(is, loadAt(3, 7, 5, "c", 11)))
	wantMerged(t, "of another Seq", logOf(is), logOf(loadAt(2, 8, 5, "c", 11)), logOf(is, loadAt(2, 8, 5, "c", 11)))
	full := fullLog()
	for _, place := range []int{0, 1, 60, 118, 119} {
		other := slices.Clone(full)
		other[place].Amount++
		wantOdds(t, "one of MaxEvents", full, other, impl.ErrForm)
		wantOdds(t, "one of MaxEvents", full, other[place:place+1], impl.ErrForm)
	}
}

func TestP13MergesThatAreNotRight(t *testing.T) {
	wantOdds(t, "a Seq that falls", logOf(loadAt(1, 1, 6, "c", 1)), logOf(loadAt(1, 2, 5, "c", 1)), impl.ErrState)
	wantOdds(t, "a Seq that falls, others between", logOf(loadAt(2, 1, 5, "c", 1), loadAt(1, 1, 9, "c", 1)), logOf(loadAt(1, 2, 5, "c", 1), loadAt(2, 2, 7, "c", 1)), impl.ErrState)
	wantOdds(t, "a Seq that falls between two", logOf(loadAt(1, 1, 1, "c", 1), loadAt(1, 3, 3, "c", 1)), logOf(loadAt(1, 4, 2, "c", 1)), impl.ErrState)
	wantOdds(t, "beside one of both", logOf(loadAt(1, 1, 1, "c", 1), loadAt(1, 2, 3, "c", 1)), logOf(loadAt(1, 1, 1, "c", 1), loadAt(1, 3, 2, "c", 1)), impl.ErrState)
	wantOdds(t, "the last one of many", logOf(manyLoads(9, 1, 118)...), logOf(loadAt(9, 119, 117, "c", 1)), impl.ErrState)
	wantMerged(t, "one Time, a Seq that rises", logOf(loadAt(1, 1, 5, "c", 1)), logOf(loadAt(1, 2, 5, "c", 1)), logOf(loadAt(1, 1, 5, "c", 1), loadAt(1, 2, 5, "c", 1)))
	wantMerged(t, "Seqs of another shop do not count", logOf(loadAt(1, 1, 6, "c", 1)), logOf(loadAt(2, 2, 5, "c", 1)), logOf(loadAt(2, 2, 5, "c", 1), loadAt(1, 1, 6, "c", 1)))
}

func TestP13AsManyEventsAsThereMayBe(t *testing.T) {
	full := fullLog()
	wantMerged(t, "the same MaxEvents", full, full, full)
	wantMerged(t, "half and half", full[:60], full[60:], full)
	wantMerged(t, "that overlap", full[:100], full[20:], full)
	wantMerged(t, "all but the last, and it", full[:119], full[119:], full)
	wantMerged(t, "all but the first, and it", full[1:], full[:1], full)
	for _, one := range logOf(couponAt(9, 1, 0, "x"), couponAt(9, 1, 60, "x"), couponAt(9, 1, 999, "x")) {
		wantOdds(t, "one more than MaxEvents", full, logOf(one), impl.ErrMany)
		wantOdds(t, "one more than MaxEvents", full[:60], append(slices.Clone(full[60:]), couponAt(9, 1, 999, "x")), impl.ErrMany)
	}
	wantOdds(t, "twice MaxEvents", full, manyLoads(2, 1, 120), impl.ErrMany)
	wantMerged(t, "just as many of two shops", manyLoads(1, 1, 60), manyLoads(2, 61, 60), slices.Concat(manyLoads(1, 1, 60), manyLoads(2, 61, 60)))
	wantOdds(t, "one more of two shops", manyLoads(1, 1, 60), manyLoads(2, 60, 61), impl.ErrMany)
}

func TestP13WhichFaultOfAMergeComesFirst(t *testing.T) {
	full, long, wrong := fullLog(), make([]impl.Event, impl.MaxList+1), logOf(impl.Event{})
	odd := slices.Clone(full)
	odd[70].Amount++
	for _, lists := range [][2][]impl.Event{{long, wrong}, {wrong, long}, {long, full}, {full, long}, {long, long}, {long, make([]impl.Event, impl.MaxList)}} {
		wantNoMerge(t, "too long ahead of all", lists[0], lists[1], impl.ErrLong)
	}
	for _, list := range wrongLogs() {
		wantNoMerge(t, "wrong ahead of one at odds and of too many", append(slices.Clone(full), full[0]), list, impl.ErrBad)
		wantNoMerge(t, "wrong, though it is wrong in both", list, list, impl.ErrBad)
	}
	wantNoMerge(t, "too many in a list are wrong", append(slices.Clone(full), couponAt(2, 1, 999, "x")), odd, impl.ErrBad)
	wantOdds(t, "at odds ahead of too many", append(slices.Clone(full[:119]), couponAt(2, 1, 999, "x")), append(slices.Clone(odd[1:]), couponAt(3, 1, 999, "x")), impl.ErrForm)
	wantOdds(t, "at odds ahead of Seqs that fall", logOf(loadAt(1, 1, 6, "c", 1), loadAt(2, 1, 6, "c", 1)), logOf(loadAt(1, 2, 5, "c", 1), loadAt(2, 1, 6, "c", 2)), impl.ErrForm)
	late := append(manyLoads(2, 1, 59), loadAt(1, 1, 999, "c", 1))
	wantOdds(t, "too many ahead of Seqs that fall", late, manyLoads(1, 2, 61), impl.ErrMany)
	wantOdds(t, "just not too many, Seqs that fall", late, manyLoads(1, 2, 60), impl.ErrState)
}

// smallLogs are all right lists of two shops, Seqs, Times and Amounts.
func smallLogs() [][]impl.Event {
	lists := [][]impl.Event{nil}
	for _, name := range [][2]int{{1, 1}, {1, 2}, {2, 1}, {2, 2}} {
		for _, list := range lists {
			for n := range 4 {
				more := append(slices.Clone(list), loadAt(name[0], name[1], n/2, "c", 1+n%2))
				slices.SortFunc(more, inOrder)
				lists = append(lists, more)
			}
		}
	}
	return slices.DeleteFunc(lists, func(list []impl.Event) bool { return !logByWords(list) })
}

func TestP13EverySmallMerge(t *testing.T) {
	lists := smallLogs()
	seen := map[int]int{}
	for _, a := range lists {
		for _, b := range lists {
			want, wantCode := mergeByWords(a, b)
			got, code := impl.MergeEvents(a, b)
			if code != wantCode || !slices.Equal(got, want) {
				t.Fatalf("MergeEvents(%v, %v) = %v, %d; want %v, %d", a, b, got, code, want, wantCode)
			}
			seen[code]++
		}
	}
	if len(seen) != 3 || seen[impl.OK] == 0 || seen[impl.ErrForm] == 0 || seen[impl.ErrState] == 0 {
		t.Error("codes of small merges", seen)
	}
}

func TestP13MergesLikeASortedSet(t *testing.T) {
	r := fixed()
	seen := map[int]int{}
	for range 4000 {
		all := someHistory(r, r.IntN(150), 1+r.IntN(9))
		a, b := someOf(r, all, 2+r.IntN(5)), someOf(r, all, 2+r.IntN(5))
		if len(b) > 0 && r.IntN(2) == 0 {
			e := &b[r.IntN(len(b))]
			*e = impl.Event{Shop: 1 + r.IntN(9), Seq: 1 + r.IntN(20), Time: e.Time, Kind: e.Kind, Card: e.Card, Amount: e.Amount}
			slices.SortFunc(b, inOrder)
		}
		want, wantCode := mergeByWords(a, b)
		for _, lists := range [][2][]impl.Event{{a, b}, {b, a}} {
			got, code := impl.MergeEvents(lists[0], lists[1])
			if code != wantCode || !slices.Equal(got, want) {
				t.Fatalf("MergeEvents(%v, %v) = %v, %d; want %v, %d", lists[0], lists[1], got, code, want, wantCode)
			}
		}
		seen[wantCode]++
	}
	for _, code := range []int{impl.OK, impl.ErrBad, impl.ErrForm, impl.ErrMany, impl.ErrState} {
		if seen[code] < 20 {
			t.Error("too few merges drawn have the code", code, seen)
		}
	}
}

// mergedInTurn merges the first list with the second, and what that is with the third.
func mergedInTurn(lists [3][]impl.Event, order [3]int) ([]impl.Event, int) {
	two, code := impl.MergeEvents(lists[order[0]], lists[order[1]])
	if code != impl.OK {
		return nil, code
	}
	return impl.MergeEvents(two, lists[order[2]])
}

func TestP13ThreeShopsInEveryOrder(t *testing.T) {
	r := fixed()
	orders := [][3]int{{0, 1, 2}, {0, 2, 1}, {1, 0, 2}, {1, 2, 0}, {2, 0, 1}, {2, 1, 0}}
	seen := map[bool]int{}
	for range 600 {
		all := someHistory(r, r.IntN(125), 1+r.IntN(9))
		lists := [3][]impl.Event{someOf(r, all, 2), someOf(r, all, 2), someOf(r, all, 3)}
		if len(lists[2]) > 0 && r.IntN(3) == 0 {
			lists[2][r.IntN(len(lists[2]))].Amount = 77
		}
		first, firstCode := mergedInTurn(lists, orders[0])
		seen[firstCode == impl.OK]++
		for _, order := range orders {
			got, code := mergedInTurn(lists, order)
			// Which two are at odds may hang on who merges first, but not whether there is one history, nor what it is.
			if (code == impl.OK) != (firstCode == impl.OK) || !slices.Equal(got, first) {
				t.Fatalf("%v merged as %v: %v, %d; merged as %v: %v, %d", lists, order, got, code, orders[0], first, firstCode)
			}
			if code != impl.OK {
				continue
			}
			for _, again := range lists {
				wantMerged(t, "merged again", first, again, first)
			}
			wantMerged(t, "merged with itself", first, first, first)
		}
	}
	if seen[true] < 100 || seen[false] < 100 {
		t.Error("nearly all have one history, or nearly none", seen)
	}
}

// By the same history, whichever merges first, there is one ledger.
func TestP13OneLedgerOfAllShops(t *testing.T) {
	r := fixed()
	for range 500 {
		all := someHistory(r, r.IntN(impl.MaxEvents+1), 9)
		want, _ := impl.LedgerOf(all)
		logs := make([][]impl.Event, 9)
		for _, e := range all {
			logs[e.Shop-1] = append(logs[e.Shop-1], e)
		}
		r.Shuffle(len(logs), func(i, j int) { logs[i], logs[j] = logs[j], logs[i] })
		var merged []impl.Event
		for _, log := range logs {
			merged, _ = impl.MergeEvents(merged, log)
		}
		got, code := impl.LedgerOf(merged)
		if code != impl.OK || !slices.Equal(merged, all) || !sameLedger(got, want) {
			t.Fatalf("shops of %v are merged to %v, %+v; want %+v", all, merged, got, want)
		}
	}
}

func TestP13MergesOnOneProcessor(t *testing.T) {
	defer runtime.GOMAXPROCS(runtime.GOMAXPROCS(1))
	all := mixedLog()
	for range 200 {
		wantMerged(t, "one processor", all[:7], all[3:], all)
		wantMerged(t, "one processor", fullLog()[:100], fullLog()[20:], fullLog())
	}
}

// Whatever a merge answers, nothing of it goes on behind that.
func TestP13NothingRunsBehindAMerge(t *testing.T) {
	full := fullLog()
	ahead := runtime.NumGoroutine()
	for range 300 {
		wantMerged(t, "done", mixedLog(), mixedLog()[2:], mixedLog())
		wantOdds(t, "at odds", logOf(loadAt(1, 1, 5, "c", 1)), logOf(loadAt(1, 1, 5, "c", 2)), impl.ErrForm)
		wantOdds(t, "too many", full, manyLoads(2, 1, 120), impl.ErrMany)
		wantOdds(t, "Seqs that fall", logOf(loadAt(1, 1, 6, "c", 1)), logOf(loadAt(1, 2, 5, "c", 1)), impl.ErrState)
		wantNoMerge(t, "wrong", logOf(impl.Event{}), full, impl.ErrBad)
	}
	for range 200 {
		if runtime.NumGoroutine() <= ahead {
			return
		}
		time.Sleep(10 * time.Millisecond) // the last statement of a goroutine is done ahead of its end
	}
	t.Errorf("%d goroutines run, ahead of the merges %d", runtime.NumGoroutine(), ahead)
}

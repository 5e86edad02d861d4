package tests

import (
	"fmt"
	"math"
	"math/rand/v2"
	"regexp"
	"slices"
	"strings"
	"testing"

	"loop.example/g00067/impl"
)

func event(kind, amount int, text string) impl.Entry {
	return impl.Entry{Kind: kind, Amount: amount, Text: text}
}

func entriesOf(entries ...impl.Entry) []impl.Entry { return entries }

// dayEvents are right, and of each length of number and Text.
func dayEvents() []impl.Entry {
	return entriesOf(event(1, 500, "cash"), event(2, -20, ""), event(1, 70, "a  b"), event(9, -most, " ~ "), event(5, 0, " "), event(7, most, strings.Repeat("~", impl.MaxRemark)), event(3, 7, "4 5 6 7 8"))
}

func headByWords(e impl.Entry) string {
	return fmt.Sprintf("%d %d %d %s", e.Seq, e.Kind, e.Amount, e.Text)
}

// sumByWords goes byte by byte.
func sumByWords(ahead int, head string) int {
	sum := ahead
	for _, b := range []byte(head) {
		sum = (257*sum + int(b) + 1) % 998244353
	}
	return sum
}

// chainByWords takes whatever it is given, so that entries that are wrong have Seq and Sum, too.
func chainByWords(list []impl.Entry) []impl.Entry {
	chained := slices.Clone(list)
	sum := 1
	for i := range chained {
		chained[i].Seq = i + 1
		sum = sumByWords(sum, headByWords(chained[i]))
		chained[i].Sum = sum
	}
	return chained
}

var remarkForm = regexp.MustCompile(`\A[ -~]{0,80}\z`)

func entryByWords(e impl.Entry) bool {
	return slices.Contains([]int{1, 2, 3, 4, 5, 6, 7, 8, 9}, e.Kind) && -1000000000 <= e.Amount && e.Amount <= 1000000000 && remarkForm.MatchString(e.Text)
}

func checkByWords(list []impl.Entry) (int, int) {
	if len(list) > 4096 {
		return impl.ErrLong, 0
	}
	if len(list) > 200 {
		return impl.ErrMany, 0
	}
	sum := 1
	for i, e := range list {
		if !entryByWords(e) {
			return impl.ErrBad, i
		}
		if e.Seq != i+1 {
			return impl.ErrForm, i
		}
		sum = sumByWords(sum, headByWords(e))
		if e.Sum != sum {
			return impl.ErrSum, i
		}
	}
	return impl.OK, 0
}

func manyEvents(count int) []impl.Entry {
	return slices.Repeat(entriesOf(event(1, 5, "cash")), count)
}

// longEvents have the longest heads that there may be.
func longEvents(count int) []impl.Entry {
	return slices.Repeat(entriesOf(event(9, -most, strings.Repeat("~", impl.MaxRemark))), count)
}

func someRemark(r *rand.Rand, length int) string {
	text := make([]byte, length)
	for i := range text {
		text[i] = byte(32 + r.IntN(95))
		if r.IntN(4) == 0 {
			text[i] = " 0123456789-"[r.IntN(12)]
		}
	}
	return string(text)
}

func someEvents(r *rand.Rand, count int) []impl.Entry {
	list := make([]impl.Entry, 0, count)
	for range count {
		list = append(list, event(1+r.IntN(9), anyAmount(r), someRemark(r, []int{0, 1, r.IntN(20), r.IntN(81), 80}[r.IntN(5)])))
	}
	return list
}

func wantChained(t *testing.T, what string, list, want []impl.Entry) {
	t.Helper()
	got, code := impl.Chain(list)
	if code != impl.OK || !slices.Equal(got, want) {
		t.Fatalf("%s: Chain = %.400v, %d; want %.400v", what, got, code, want)
	}
}

// wantJournal: nothing is wrong with it, and each call that takes a journal says so.
func wantJournal(t *testing.T, what string, list []impl.Entry) {
	t.Helper()
	wantJournalFault(t, what, list, impl.OK, 0)
	if _, code := impl.JournalText(list); code != impl.OK {
		t.Errorf("%s: JournalText has the code %d", what, code)
	}
	if _, code := impl.Counted(list, 0); code != impl.OK {
		t.Errorf("%s: Counted has the code %d", what, code)
	}
}

func wantJournalFault(t *testing.T, what string, list []impl.Entry, wantCode, wantPlace int) {
	t.Helper()
	if code, place := impl.CheckJournal(list); code != wantCode || place != wantPlace {
		t.Errorf("%s: CheckJournal = %d at %d; want %d at %d", what, code, place, wantCode, wantPlace)
	}
	if wantCode == impl.OK {
		return
	}
	if text, code := impl.JournalText(list); code != wantCode || text != "" {
		t.Errorf("%s: JournalText = %.100q, %d; want %d", what, text, code, wantCode)
	}
	for _, counted := range []int{0, 5, most, most + 1, math.MinInt} {
		if off, code := impl.Counted(list, counted); code != wantCode || off != 0 {
			t.Errorf("%s: Counted(%d) = %d, %d; want %d", what, counted, off, code, wantCode)
		}
	}
}

func wantUnchained(t *testing.T, what string, list []impl.Entry, want int) {
	t.Helper()
	if got, code := impl.Chain(list); code != want || len(got) != 0 {
		t.Errorf("%s: Chain = %.200v, %d; want %d", what, got, code, want)
	}
}

func TestJournalBounds(t *testing.T) {
	got := []int{impl.MaxEntries, impl.MaxRemark, impl.MaxEvent, impl.Prime}
	if !slices.Equal(got, []int{200, 80, 9, 998244353}) {
		t.Error("constants", got)
	}
}

func TestP11SumsByHand(t *testing.T) {
	wantChained(t, "four entries", dayEvents()[:4], entriesOf(
		impl.Entry{Seq: 1, Kind: 1, Amount: 500, Text: "cash", Sum: 181747959},
		impl.Entry{Seq: 2, Kind: 2, Amount: -20, Text: "", Sum: 428180296},
		impl.Entry{Seq: 3, Kind: 1, Amount: 70, Text: "a  b", Sum: 778390160},
		impl.Entry{Seq: 4, Kind: 9, Amount: -1000000000, Text: " ~ ", Sum: 353120265},
	))
	wantChained(t, "the shortest and a long head", entriesOf(event(1, 0, ""), event(9, most, strings.Repeat("~", 80))), entriesOf(
		impl.Entry{Seq: 1, Kind: 1, Amount: 0, Text: "", Sum: 964512393},
		impl.Entry{Seq: 2, Kind: 9, Amount: 1000000000, Text: strings.Repeat("~", 80), Sum: 431117320},
	))
	long, code := impl.Chain(longEvents(impl.MaxEntries))
	if code != impl.OK || len(long) != 200 || long[199].Sum != 674880999 || long[199].Seq != 200 {
		t.Error("the longest journal", code, len(long))
	}
}

func TestP11ChainedByWords(t *testing.T) {
	r := fixed()
	for range 2000 {
		list := someEvents(r, r.IntN(12))
		if r.IntN(50) == 0 {
			list = someEvents(r, impl.MaxEntries-r.IntN(2))
		}
		want := chainByWords(list)
		for i := range list { // what they had is not looked at
			list[i].Seq, list[i].Sum = oddNumbers()[r.IntN(len(oddNumbers()))], oddNumbers()[r.IntN(len(oddNumbers()))]
		}
		wantChained(t, "any entries", list, want)
		wantChained(t, "what is chained already", want, want)
		wantJournal(t, "what is chained", want)
	}
}

func TestP11ChainedPieceByPiece(t *testing.T) {
	whole := chainByWords(dayEvents())
	for count := range whole {
		wantChained(t, "the first ones", dayEvents()[:count], whole[:count])
		wantJournal(t, "the first ones", whole[:count])
	}
	behind, code := impl.Chain(dayEvents()[1:])
	if code != impl.OK || behind[0].Seq != 1 || behind[0].Sum == whole[1].Sum {
		t.Error("a sum hangs on those ahead", behind, code)
	}
}

func TestP11NoEntryAtAll(t *testing.T) {
	for _, none := range [][]impl.Entry{nil, {}} {
		wantChained(t, "none", none, nil)
		wantJournal(t, "none", none)
	}
}

func TestP11AsManyEntriesAsThereMayBe(t *testing.T) {
	for _, events := range []func(count int) []impl.Entry{manyEvents, longEvents, func(count int) []impl.Entry { return make([]impl.Entry, count) }} {
		wantUnchained(t, "one too many", events(impl.MaxEntries+1), impl.ErrMany)
		wantUnchained(t, "a list at its limit", events(impl.MaxList), impl.ErrMany)
		wantUnchained(t, "a list beyond it", events(impl.MaxList+1), impl.ErrLong)
		wantJournalFault(t, "one too many", chainByWords(events(impl.MaxEntries+1)), impl.ErrMany, 0)
		wantJournalFault(t, "a list at its limit", chainByWords(events(impl.MaxList)), impl.ErrMany, 0)
		wantJournalFault(t, "a list beyond it", chainByWords(events(impl.MaxList+1)), impl.ErrLong, 0)
	}
	for _, events := range []func(count int) []impl.Entry{manyEvents, longEvents} {
		wantChained(t, "as many as may be", events(impl.MaxEntries), chainByWords(events(impl.MaxEntries)))
		wantJournal(t, "as many as may be", chainByWords(events(impl.MaxEntries)))
	}
}

func rightEvents() []impl.Entry {
	list := dayEvents()
	for _, kind := range []int{1, 2, 8, impl.MaxEvent} {
		list = append(list, event(kind, 5, "cash"))
	}
	for _, amount := range []int{-most, -most + 1, -1, 0, 1, 9, 10, most - 1, most} {
		list = append(list, event(1, amount, "cash"))
	}
	for _, text := range []string{"", " ", "  ", "~", " a", "a ", " a ", "a  b", "0", "-1", "#", "1 1 1 1 ", strings.Repeat(" ", 80), strings.Repeat("x", 79), strings.Repeat("~", 80)} {
		list = append(list, event(1, 5, text))
	}
	for b := 32; b <= 126; b++ {
		list = append(list, event(1, 5, string([]byte{byte(b)})), event(1, 5, "cash"+string([]byte{byte(b)})+"cash"))
	}
	return list
}

func wrongEvents() []impl.Entry {
	var list []impl.Entry
	for _, kind := range []int{0, impl.MaxEvent + 1, -1, 257, math.MinInt, math.MaxInt} {
		list = append(list, event(kind, 5, "cash"))
	}
	for _, amount := range []int{most + 1, -most - 1, math.MinInt, math.MaxInt} {
		list = append(list, event(1, amount, "cash"))
	}
	for b := range 256 {
		if b < 32 || b > 126 {
			list = append(list, event(1, 5, string([]byte{byte(b)})), event(1, 5, "cash"+string([]byte{byte(b)})), event(1, 5, strings.Repeat("x", 79)+string([]byte{byte(b)})))
		}
	}
	for _, text := range []string{"ä", strings.Repeat(" ", 81), strings.Repeat("x", 81), strings.Repeat("~", 82), strings.Repeat("x", 5000), strings.Repeat("x", impl.MaxText+1), "a\nb"} {
		list = append(list, event(1, 5, text))
	}
	return list
}

func TestP11EntriesThatAreRight(t *testing.T) {
	for _, e := range rightEvents() {
		for _, list := range [][]impl.Entry{{e}, {e, e}, {event(2, 1, ""), e, event(2, 1, "")}} {
			wantChained(t, "a right entry", list, chainByWords(list))
			wantJournal(t, fmt.Sprintf("a right entry %.150v", e), chainByWords(list))
		}
	}
}

func TestP11EntriesThatAreWrong(t *testing.T) {
	for _, e := range wrongEvents() {
		what := fmt.Sprintf("a wrong entry %.150v", e)
		for place := range 4 {
			list := slices.Insert(dayEvents()[:3], place, e)
			wantUnchained(t, what, list, impl.ErrBad)
			wantJournalFault(t, what, chainByWords(list), impl.ErrBad, place)
		}
	}
}

func TestP11SeqIsThePlaceAndOne(t *testing.T) {
	for place := range dayEvents() {
		for _, seq := range append(oddNumbers(), place, place+2, -place-1, place+1+impl.Prime) {
			if seq == place+1 {
				continue
			}
			list := chainByWords(dayEvents())
			list[place].Seq = seq
			wantJournalFault(t, "another Seq", list, impl.ErrForm, place)
			sum := 1
			for i := range list { // sums that fit the Seq do not help it
				sum = sumByWords(sum, headByWords(list[i]))
				list[i].Sum = sum
			}
			wantJournalFault(t, "another Seq, and its sum", list, impl.ErrForm, place)
		}
	}
}

func TestP11SumsThatAreOthers(t *testing.T) {
	right := chainByWords(dayEvents())
	for place := range right {
		ahead := 1
		if place > 0 {
			ahead = right[place-1].Sum
		}
		own := right[place].Sum
		for _, sum := range append(oddNumbers(), ahead, own-1, own+1, -own, own+impl.Prime, own-impl.Prime, own+2*impl.Prime, impl.Prime, impl.Prime-1, impl.Prime+1, sumByWords(1, headByWords(right[place]))) {
			if sum == own {
				continue
			}
			list := slices.Clone(right)
			list[place].Sum = sum
			wantJournalFault(t, fmt.Sprintf("the sum %d", sum), list, impl.ErrSum, place)
		}
	}
}

// A sum that comes out as 0 is one like others.
func TestP11ASumOfNought(t *testing.T) {
	list := entriesOf(event(1, 5, "g"), event(1, 116432, "Q"), event(3, 1, "behind"))
	chained := chainByWords(list)
	if chained[1].Sum != 0 {
		t.Fatal("no sum of nought", chained)
	}
	wantChained(t, "a sum of nought", list, chained)
	wantJournal(t, "a sum of nought", chained)
	wantToldBack(t, chained)
	chained[1].Sum = impl.Prime
	wantJournalFault(t, "Prime for nought", chained, impl.ErrSum, 1)
}

func TestP11AnEntryLeftOut(t *testing.T) {
	right := chainByWords(dayEvents())
	for place := range right {
		list := slices.Delete(slices.Clone(right), place, place+1)
		if place == len(right)-1 {
			wantJournal(t, "the last one left out", list) // none follows that could tell
			continue
		}
		wantJournalFault(t, fmt.Sprintf("entry %d left out", place), list, impl.ErrForm, place)
		for i := range list {
			list[i].Seq = i + 1
		}
		wantJournalFault(t, fmt.Sprintf("entry %d left out, and the others told anew", place), list, impl.ErrSum, place)
	}
}

func TestP11AnEntryPutInOrTwice(t *testing.T) {
	right := chainByWords(dayEvents())
	for place := range right {
		list := slices.Insert(slices.Clone(right), place, right[place])
		wantJournalFault(t, fmt.Sprintf("entry %d twice", place), list, impl.ErrForm, place+1)
		list = slices.Insert(slices.Clone(right), place, impl.Entry{Seq: place + 1, Kind: 1, Amount: 1, Text: "put in", Sum: right[place].Sum})
		wantJournalFault(t, fmt.Sprintf("an entry put in at %d", place), list, impl.ErrSum, place)
	}
}

func TestP11TwoEntriesExchanged(t *testing.T) {
	right := chainByWords(dayEvents())
	for a := range right {
		for b := a + 1; b < len(right); b++ {
			list := slices.Clone(right)
			list[a], list[b] = list[b], list[a]
			wantJournalFault(t, fmt.Sprintf("entries %d and %d exchanged", a, b), list, impl.ErrForm, a)
			list[a].Seq, list[b].Seq = a+1, b+1
			wantJournalFault(t, fmt.Sprintf("entries %d and %d exchanged but for Seq", a, b), list, impl.ErrSum, a)
		}
	}
}

func TestP11WhatIsChangedIsToldThere(t *testing.T) {
	right := chainByWords(dayEvents())
	for place := range right {
		for what, change := range map[string]func(e *impl.Entry){
			"another Kind":      func(e *impl.Entry) { e.Kind = e.Kind%9 + 1 },
			"an Amount of less": func(e *impl.Entry) { e.Amount = max(e.Amount-1, -most+1) },
			"another sign":      func(e *impl.Entry) { e.Amount = -e.Amount - 1 },
			"another Text":      func(e *impl.Entry) { e.Text = e.Text[:min(len(e.Text), 79)] + "x" },
			"a Text of less":    func(e *impl.Entry) { e.Text = e.Text[:len(e.Text)/2] + "-" },
		} {
			list := slices.Clone(right)
			change(&list[place])
			if !entryByWords(list[place]) { // the sign of the least amount
				continue
			}
			wantJournalFault(t, what, list, impl.ErrSum, place)
		}
	}
}

func TestP11WhichFaultOfAnEntryComesFirst(t *testing.T) {
	right := chainByWords(dayEvents())
	for place := range right {
		list := slices.Clone(right)
		list[place].Sum++
		wantJournalFault(t, "a sum", list, impl.ErrSum, place)
		list[place].Seq++
		wantJournalFault(t, "a Seq ahead of a sum", list, impl.ErrForm, place)
		for _, wrong := range []impl.Entry{event(0, 5, ""), event(10, 5, ""), event(1, most+1, ""), event(1, 5, "\x1f"), event(1, 5, strings.Repeat("x", 81))} {
			wrong.Seq, wrong.Sum = list[place].Seq, list[place].Sum
			list[place] = wrong
			wantJournalFault(t, "what is wrong ahead of both", list, impl.ErrBad, place)
			list[place].Seq = place + 1
			wantJournalFault(t, "what is wrong ahead of a sum", list, impl.ErrBad, place)
			list[place].Seq = place
		}
	}
}

// Entries are looked at in turn: what is wrong with an earlier one comes ahead, whatever it is.
func TestP11OfTwoEntriesTheFirstIsTold(t *testing.T) {
	spoil := map[int]func(e *impl.Entry){
		impl.ErrBad:  func(e *impl.Entry) { e.Kind = 0 },
		impl.ErrForm: func(e *impl.Entry) { e.Seq = 77 },
		impl.ErrSum:  func(e *impl.Entry) { e.Sum ^= 1 },
	}
	right := chainByWords(dayEvents())
	for a := range right {
		for b := a + 1; b < len(right); b++ {
			for first, one := range spoil {
				for _, other := range spoil {
					list := slices.Clone(right)
					one(&list[a])
					other(&list[b])
					wantJournalFault(t, "two faults", list, first, a)
				}
			}
		}
	}
	many := chainByWords(manyEvents(impl.MaxEntries + 1))
	many[0] = impl.Entry{}
	wantJournalFault(t, "too many ahead of what is wrong", many, impl.ErrMany, 0)
	wantUnchained(t, "too many ahead of what is wrong", many, impl.ErrMany)
	long := make([]impl.Entry, impl.MaxList+1)
	wantJournalFault(t, "too long ahead of too many", long, impl.ErrLong, 0)
	wantUnchained(t, "too long ahead of too many", long, impl.ErrLong)
}

func wantOff(t *testing.T, what string, list []impl.Entry, counted, want int) {
	t.Helper()
	if off, code := impl.Counted(list, counted); off != want || code != impl.OK {
		t.Errorf("%s: Counted(%d) = %d, %d; want %d", what, counted, off, code, want)
	}
}

func TestP11TheDrawerIsOffByWhatItIsOff(t *testing.T) {
	list := chainByWords(entriesOf(event(1, 500, "cash"), event(2, -20, ""), event(1, 70, "a  b")))
	wantOff(t, "just what there is", list, 550, 0)
	wantOff(t, "too much", list, 551, 1)
	wantOff(t, "too little", list, 549, -1)
	wantOff(t, "nothing", list, 0, -550)
	wantOff(t, "less than nothing", list, -50, -600)
	below := chainByWords(entriesOf(event(1, -500, ""), event(2, 20, "")))
	wantOff(t, "below nothing, just so", below, -480, 0)
	wantOff(t, "below nothing, too much", below, 0, 480)
	wantOff(t, "below nothing, too little", below, -481, -1)
	for _, counted := range []int{-most, -most + 1, -1, 0, 1, most - 1, most} {
		wantOff(t, "no entries", nil, counted, counted)
		wantOff(t, "nothing in them", chainByWords(entriesOf(event(4, 0, ""), event(1, 7, ""), event(1, -7, ""))), counted, counted)
	}
}

func TestP11TheDrawerAtItsEnds(t *testing.T) {
	full := chainByWords(slices.Repeat(entriesOf(event(1, most, "")), impl.MaxEntries))
	wantOff(t, "as much as there may be, and less than nothing", full, -most, -201*most)
	wantOff(t, "as much as there may be", full, most, -199*most)
	owed := chainByWords(longEvents(impl.MaxEntries))
	wantOff(t, "as much below nothing as there may be", owed, most, 201*most)
	wantOff(t, "as much below nothing, and less", owed, -most, 199*most)
	for _, list := range [][]impl.Entry{nil, full, chainByWords(dayEvents())} {
		for _, counted := range []int{most + 1, -most - 1, math.MaxInt, math.MinInt, math.MaxInt - 1} {
			if off, code := impl.Counted(list, counted); off != 0 || code != impl.ErrRange {
				t.Errorf("Counted(%d) = %d, %d; it is no amount", counted, off, code)
			}
		}
	}
}

func TestP11CountedByWords(t *testing.T) {
	r := fixed()
	for range 2000 {
		list := chainByWords(someEvents(r, r.IntN(9)))
		counted := anyAmount(r)
		want := counted
		for _, e := range list {
			want -= e.Amount
		}
		wantOff(t, "any entries", list, counted, want)
	}
}

// touched changes something in a journal, or nothing.
func touched(r *rand.Rand, list []impl.Entry) []impl.Entry {
	list = slices.Clone(list)
	for range r.IntN(3) {
		if len(list) == 0 {
			break
		}
		a, b := r.IntN(len(list)), r.IntN(len(list))
		switch r.IntN(9) {
		case 0:
			list[a], list[b] = list[b], list[a]
		case 1:
			list = slices.Delete(list, a, a+1)
		case 2:
			list = slices.Insert(list, a, list[b])
		case 3:
			list[a].Sum += r.IntN(3) - 1
		case 4:
			list[a].Seq += r.IntN(3) - 1
		case 5:
			list[a].Kind = r.IntN(11)
		case 6:
			list[a].Amount += most * (r.IntN(3) - 1)
		case 7:
			list[a].Text += string([]byte{byte(30 + r.IntN(98))})
		case 8:
			list[a].Text = list[b].Text
		}
	}
	return list
}

func TestP11CheckedByWords(t *testing.T) {
	r := fixed()
	seen := map[int]int{}
	for range 20000 {
		list := touched(r, chainByWords(someEvents(r, r.IntN(8))))
		code, place := checkByWords(list)
		wantJournalFault(t, fmt.Sprintf("touched %v", list), list, code, place)
		seen[code]++
	}
	for _, code := range []int{impl.OK, impl.ErrBad, impl.ErrForm, impl.ErrSum} {
		if seen[code] < 500 {
			t.Error("too few draws of one kind", seen)
		}
	}
}

package tests

import (
	"fmt"
	"math"
	"math/rand/v2"
	"slices"
	"strings"
	"testing"

	"loop.example/g00067/impl"
)

func authorised(id string, amount int) impl.PayAct {
	return impl.PayAct{Kind: impl.PyAuth, Id: id, Amount: amount}
}

func captured(id string, amount int) impl.PayAct {
	return impl.PayAct{Kind: impl.PyCapture, Id: id, Amount: amount}
}

func reversed(id string) impl.PayAct { return impl.PayAct{Kind: impl.PyReverse, Id: id} }

func refunded(id string, amount int) impl.PayAct {
	return impl.PayAct{Kind: impl.PyRefund, Id: id, Amount: amount}
}

func payActs(acts ...impl.PayAct) []impl.PayAct { return acts }

func open(id string, authorised, captured, refunded int) impl.Payment {
	return impl.Payment{Id: id, Authorised: authorised, Captured: captured, Refunded: refunded, Open: true}
}

func closed(id string, authorised, captured, refunded int) impl.Payment {
	return impl.Payment{Id: id, Authorised: authorised, Captured: captured, Refunded: refunded}
}

// manyPayments have the amounts 1, 2, ..
func manyPayments(count int) ([]impl.PayAct, []impl.Payment) {
	var acts []impl.PayAct
	var payments []impl.Payment
	for i, id := range someNames(count) {
		acts = append(acts, authorised(id, i+1))
		payments = append(payments, open(id, i+1, 0, 0))
	}
	return acts, payments
}

// wantPayments asks what stands behind all acts, none of which has a code.
func wantPayments(t *testing.T, what string, acts []impl.PayAct, want ...impl.Payment) {
	t.Helper()
	wantPayCodes(t, what, acts, alike(impl.OK, len(acts)), want...)
}

// wantPayCode asks for the code of the last act; those ahead of it have none.
func wantPayCode(t *testing.T, what string, ahead []impl.PayAct, act impl.PayAct, wantCode int, want ...impl.Payment) {
	t.Helper()
	wantPayCodes(t, what, append(slices.Clone(ahead), act), append(alike(impl.OK, len(ahead)), wantCode), want...)
}

func wantPayCodes(t *testing.T, what string, acts []impl.PayAct, wantCodes []int, want ...impl.Payment) {
	t.Helper()
	codes, got, code := impl.PayRun(acts)
	if code != impl.OK || !slices.Equal(codes, wantCodes) || !slices.Equal(got, want) {
		t.Errorf("%s: PayRun(%.300v) = %v, %v, %d; want %v, %v", what, acts, codes, got, code, wantCodes, want)
	}
	wantPaymentsKept(t, what, acts)
}

// wantPaymentsKept goes through the acts one more at a time: nothing is captured beyond what was authorised nor refunded beyond what was captured, an act with a code changes nothing, one without a code changes its own payment alone, and what was told of an act does not hang on those behind it.
func wantPaymentsKept(t *testing.T, what string, acts []impl.PayAct) {
	t.Helper()
	all, _, _ := impl.PayRun(acts)
	var ahead []impl.Payment
	for i, act := range acts {
		codes, now, code := impl.PayRun(acts[:i+1])
		if code != impl.OK || !slices.Equal(codes, all[:i+1]) {
			t.Fatalf("%s: the first %d acts are told as %v, %d; among %.300v as %v", what, i+1, codes, code, acts, all[:i+1])
		}
		for _, p := range now {
			if p.Refunded < 0 || p.Refunded > p.Captured || p.Captured > p.Authorised || p.Open && p.Captured == p.Authorised || p.Authorised < 1 || p.Authorised > impl.MaxMoney || !impl.NameOK(p.Id) {
				t.Fatalf("%s: behind act %d of %.300v there is %+v", what, i, acts, p)
			}
		}
		want := slices.Clone(ahead)
		if codes[i] == impl.OK {
			want = withAct(want, act)
		}
		if !slices.Equal(now, want) {
			t.Fatalf("%s: act %d of %.300v, with the code %d, makes %v of %v", what, i, acts, codes[i], now, ahead)
		}
		ahead = now
	}
}

// withAct does an act against which nothing stands.
func withAct(payments []impl.Payment, act impl.PayAct) []impl.Payment {
	if act.Kind == impl.PyAuth {
		return append(payments, open(act.Id, act.Amount, 0, 0))
	}
	for i := range payments {
		p := &payments[i]
		switch {
		case p.Id != act.Id:
		case act.Kind == impl.PyCapture:
			p.Captured += act.Amount
			p.Open = p.Captured != p.Authorised
		case act.Kind == impl.PyReverse:
			p.Open = false
		case act.Kind == impl.PyRefund:
			p.Refunded += act.Amount
		}
	}
	return payments
}

func TestPaymentBounds(t *testing.T) {
	got := []int{impl.PyAuth, impl.PyCapture, impl.PyReverse, impl.PyRefund, impl.MaxPayments, impl.MaxActs}
	if !slices.Equal(got, []int{1, 2, 3, 4, 60, 200}) {
		t.Error("constants", got)
	}
}

func TestP12NoActAtAll(t *testing.T) {
	for _, none := range [][]impl.PayAct{nil, {}} {
		wantPayments(t, "none", none)
	}
}

func TestP12WhatIsAuthorisedIsCaptured(t *testing.T) {
	begun := payActs(authorised("a", 100))
	for _, c := range []struct {
		what string
		acts []impl.PayAct
		want impl.Payment
	}{
		{"nothing yet", begun, open("a", 100, 0, 0)},
		{"one cent", append(begun, captured("a", 1)), open("a", 100, 1, 0)},
		{"all but one", append(begun, captured("a", 99)), open("a", 100, 99, 0)},
		{"in one go", append(begun, captured("a", 100)), closed("a", 100, 100, 0)},
		{"in two parts", append(begun, captured("a", 60), captured("a", 40)), closed("a", 100, 100, 0)},
		{"in three parts, of which some is left", append(begun, captured("a", 60), captured("a", 1), captured("a", 38)), open("a", 100, 99, 0)},
		{"the very least, in one go", payActs(authorised("a", 1), captured("a", 1)), closed("a", 1, 1, 0)},
		{"the very most, in one go", payActs(authorised("a", most), captured("a", most)), closed("a", most, most, 0)},
		{"the very most, in two parts", payActs(authorised("a", most), captured("a", most-1), captured("a", 1)), closed("a", most, most, 0)},
	} {
		wantPayments(t, c.what, c.acts, c.want)
	}
	cents := payActs(authorised("a", impl.MaxActs-1))
	for range impl.MaxActs - 1 {
		cents = append(cents, captured("a", 1))
	}
	wantPayments(t, "cent by cent", cents, closed("a", impl.MaxActs-1, impl.MaxActs-1, 0))
}

func TestP12WhatIsReversedIsOpenNoMore(t *testing.T) {
	begun := payActs(authorised("a", 100))
	wantPayments(t, "ahead of a capture", append(begun, reversed("a")), closed("a", 100, 0, 0))
	wantPayments(t, "behind a capture of a part", append(begun, captured("a", 60), reversed("a")), closed("a", 100, 60, 0))
	wantPayments(t, "behind a capture and a refund", append(begun, captured("a", 60), refunded("a", 60), reversed("a")), closed("a", 100, 60, 60))
	for _, amount := range oddNumbers() {
		wantPayments(t, "with an Amount that means nothing", append(begun, impl.PayAct{Kind: impl.PyReverse, Id: "a", Amount: amount}), closed("a", 100, 0, 0))
	}
}

func TestP12WhatIsCapturedIsRefunded(t *testing.T) {
	half := payActs(authorised("a", 100), captured("a", 50))
	for _, c := range []struct {
		what string
		acts []impl.PayAct
		want impl.Payment
	}{
		{"in one go", append(half, refunded("a", 50)), open("a", 100, 50, 50)},
		{"in two parts", append(half, refunded("a", 49), refunded("a", 1)), open("a", 100, 50, 50)},
		{"a part", append(half, refunded("a", 1)), open("a", 100, 50, 1)},
		{"and what is captured then, too", append(half, refunded("a", 50), captured("a", 20), refunded("a", 20)), open("a", 100, 70, 70)},
		{"ahead of the last capture", append(half, refunded("a", 30), captured("a", 50)), closed("a", 100, 100, 30)},
		{"of all that there is", append(half, captured("a", 50), refunded("a", 100)), closed("a", 100, 100, 100)},
		{"when it is open no more, as all is captured", append(half, captured("a", 50), refunded("a", 60), refunded("a", 40)), closed("a", 100, 100, 100)},
		{"when it is open no more, as it is reversed", append(half, reversed("a"), refunded("a", 20), refunded("a", 30)), closed("a", 100, 50, 50)},
		{"the very least", payActs(authorised("a", 1), captured("a", 1), refunded("a", 1)), closed("a", 1, 1, 1)},
		{"the very most", payActs(authorised("a", most), captured("a", most), refunded("a", most)), closed("a", most, most, most)},
	} {
		wantPayments(t, c.what, c.acts, c.want)
	}
}

// A refund gives nothing free: it neither opens a payment again nor leaves more to capture.
func TestP12ARefundLeavesNoMoreToCapture(t *testing.T) {
	whole := payActs(authorised("a", 100), captured("a", 100), refunded("a", 100))
	wantPayCode(t, "behind a refund of all", whole, captured("a", 1), impl.ErrState, closed("a", 100, 100, 100))
	wantPayCode(t, "behind a refund of all", whole, reversed("a"), impl.ErrState, closed("a", 100, 100, 100))
	wantPayCode(t, "behind a refund of all", whole, authorised("a", 100), impl.ErrTwice, closed("a", 100, 100, 100))
	part := payActs(authorised("a", 100), captured("a", 60), refunded("a", 60))
	wantPayCode(t, "behind a refund of a part", part, captured("a", 41), impl.ErrShort, open("a", 100, 60, 60))
	wantPayCode(t, "behind a refund of a part", part, captured("a", 40), impl.OK, closed("a", 100, 100, 60))
}

func TestP12NothingIsCapturedBeyondWhatWasAuthorised(t *testing.T) {
	for _, authorisedAmount := range []int{1, 2, 100, most - 1, most} {
		begun := payActs(authorised("a", authorisedAmount))
		for _, first := range []int{0, 1, authorisedAmount / 2, authorisedAmount - 1} {
			ahead := begun
			if first > 0 {
				ahead = append(slices.Clone(begun), captured("a", first))
			}
			left := authorisedAmount - first
			if left == 0 {
				continue
			}
			is := open("a", authorisedAmount, first, 0)
			wantPayCode(t, "just what is left", ahead, captured("a", left), impl.OK, closed("a", authorisedAmount, authorisedAmount, 0))
			for _, amount := range []int{left + 1, left + 2, most + 1, math.MaxInt - 1, math.MaxInt} {
				wantPayCode(t, "more than what is left", ahead, captured("a", amount), impl.ErrShort, is)
			}
			for _, amount := range []int{0, -1, -left, -first - 1, -most, math.MinInt + 1, math.MinInt} {
				wantPayCode(t, "less than a cent", ahead, captured("a", amount), impl.ErrRange, is)
			}
		}
	}
}

func TestP12NothingIsRefundedBeyondWhatWasCaptured(t *testing.T) {
	for _, is := range []impl.Payment{open("a", 100, 0, 0), open("a", 100, 60, 0), open("a", 100, 60, 20), open("a", 100, 60, 60), open("a", most, most-1, 0), closed("a", 100, 100, 0), closed("a", 100, 100, 99), closed("a", 100, 100, 100), closed("a", 100, 0, 0), closed("a", 100, 60, 0), closed("a", 100, 60, 59), closed("a", most, most, 1)} {
		ahead, left := actsFor(is), is.Captured-is.Refunded
		if left > 0 {
			whole := is
			whole.Refunded = is.Captured
			wantPayCode(t, "just what is captured", ahead, refunded("a", left), impl.OK, whole)
		}
		for _, amount := range []int{left + 1, left + 2, most + 1, math.MaxInt - 1, math.MaxInt} {
			wantPayCode(t, "more than what is captured", ahead, refunded("a", amount), impl.ErrShort, is)
		}
		for _, amount := range []int{0, -1, -is.Refunded - 1, -is.Captured - 1, -most, math.MinInt + 1, math.MinInt} {
			wantPayCode(t, "less than a cent", ahead, refunded("a", amount), impl.ErrRange, is)
		}
	}
}

// actsFor are acts behind which a payment is like this one.
func actsFor(p impl.Payment) []impl.PayAct {
	acts := payActs(authorised(p.Id, p.Authorised))
	if p.Captured > 0 {
		acts = append(acts, captured(p.Id, p.Captured))
	}
	if p.Refunded > 0 {
		acts = append(acts, refunded(p.Id, p.Refunded))
	}
	if !p.Open && p.Captured < p.Authorised {
		acts = append(acts, reversed(p.Id))
	}
	return acts
}

func TestP12WhatIsOpenNoMore(t *testing.T) {
	for _, is := range []impl.Payment{closed("a", 100, 100, 0), closed("a", 100, 100, 100), closed("a", 100, 0, 0), closed("a", 100, 60, 0), closed("a", 100, 60, 60), closed("a", 1, 1, 0)} {
		wantPayments(t, "as it is", actsFor(is), is)
		for _, amount := range oddNumbers() {
			wantPayCode(t, "a capture", actsFor(is), captured("a", amount), impl.ErrState, is)
			wantPayCode(t, "a reverse", actsFor(is), impl.PayAct{Kind: impl.PyReverse, Id: "a", Amount: amount}, impl.ErrState, is)
			wantPayCode(t, "one of the same Id", actsFor(is), authorised("a", amount), impl.ErrTwice, is)
		}
	}
}

func TestP12PaymentsThatThereAreNot(t *testing.T) {
	for _, ahead := range [][]impl.PayAct{nil, payActs(authorised("a", 100), captured("a", 60), authorised("ab", 5))} {
		_, is, _ := impl.PayRun(ahead)
		for _, id := range append(textsThatAreNoNames(), "b", "A", "aa", "abc", "ä", "a\x00") {
			for _, amount := range oddNumbers() {
				wantPayCode(t, "a capture", ahead, captured(id, amount), impl.ErrNone, is...)
				wantPayCode(t, "a reverse", ahead, impl.PayAct{Kind: impl.PyReverse, Id: id, Amount: amount}, impl.ErrNone, is...)
				wantPayCode(t, "a refund", ahead, refunded(id, amount), impl.ErrNone, is...)
			}
		}
	}
}

func TestP12IdsAndAmountsOfWhatIsAuthorised(t *testing.T) {
	for _, id := range []string{"a", "Z", "_", "a9", "Ä", "käse", "_9", strings.Repeat("n", impl.MaxName), strings.Repeat("ä", impl.MaxName/2)} {
		for _, amount := range []int{1, 2, most - 1, most} {
			wantPayments(t, "a right one", payActs(authorised(id, amount)), open(id, amount, 0, 0))
		}
		for _, amount := range []int{0, -1, most + 1, -most, math.MaxInt, math.MinInt} {
			wantPayCode(t, "no such Amount", nil, authorised(id, amount), impl.ErrRange)
		}
	}
	for _, id := range textsThatAreNoNames() {
		for _, amount := range append(oddNumbers(), 1, most) {
			wantPayCode(t, "no name", nil, authorised(id, amount), impl.ErrName)
			wantPayCode(t, "no name, behind another", payActs(authorised("a", 5)), authorised(id, amount), impl.ErrName, open("a", 5, 0, 0))
		}
	}
	for _, is := range []impl.Payment{open("a", 100, 0, 0), open("a", 100, 60, 5)} {
		for _, amount := range oddNumbers() {
			wantPayCode(t, "one of this Id is there", actsFor(is), authorised("a", amount), impl.ErrTwice, is)
		}
	}
	wantPayments(t, "Ids that are nearly alike", payActs(authorised("a", 1), authorised("A", 2), authorised("aa", 3), authorised("a_", 4)), open("a", 1, 0, 0), open("A", 2, 0, 0), open("aa", 3, 0, 0), open("a_", 4, 0, 0))
	wantPayCodes(t, "an Id that had a code is free", payActs(authorised("a", 0), authorised("a", 5)), []int{impl.ErrRange, impl.OK}, open("a", 5, 0, 0))
}

func TestP12KindsThatThereAreNot(t *testing.T) {
	for _, kind := range []int{math.MinInt, -4, -1, 0, 5, 6, 256 + impl.PyAuth, math.MaxInt} {
		for _, id := range append(textsThatAreNoNames(), "a", "b") {
			for _, amount := range []int{math.MinInt, -1, 0, 1, 40, 41, most + 1, math.MaxInt} {
				act := impl.PayAct{Kind: kind, Id: id, Amount: amount}
				wantPayCode(t, "no kind", payActs(authorised("a", 100), captured("a", 60)), act, impl.ErrKind, open("a", 100, 60, 0))
				wantPayCode(t, "no kind, first of all", nil, act, impl.ErrKind)
			}
		}
	}
}

func TestP12AsManyPaymentsAsThereMayBe(t *testing.T) {
	acts, payments := manyPayments(impl.MaxPayments + 1)
	full, there := acts[:impl.MaxPayments], payments[:impl.MaxPayments]
	wantPayments(t, "MaxPayments", full, there...)
	wantPayCode(t, "one more", full, acts[impl.MaxPayments], impl.ErrFull, there...)
	wantPayCode(t, "one more of the greatest Amount", full, authorised("more", most), impl.ErrFull, there...)
	for _, amount := range []int{0, -1, most + 1, math.MinInt, math.MaxInt} {
		wantPayCode(t, "an Amount ahead of no room", full, authorised("more", amount), impl.ErrRange, there...)
	}
	for _, id := range textsThatAreNoNames() {
		wantPayCode(t, "a name ahead of no room", full, authorised(id, 5), impl.ErrName, there...)
	}
	for _, p := range there {
		wantPayCode(t, "the same Id ahead of no room", full, authorised(p.Id, 5), impl.ErrTwice, there...)
		wantPayCode(t, "the same Id ahead of an Amount and of no room", full, authorised(p.Id, 0), impl.ErrTwice, there...)
	}
	// Payments that are over stay there, and so is there no room for others.
	over := append(slices.Clone(full), captured(there[0].Id, 1), refunded(there[0].Id, 1), reversed(there[59].Id))
	want := slices.Clone(there)
	want[0], want[59] = closed(there[0].Id, 1, 1, 1), closed(there[59].Id, 60, 0, 0)
	wantPayments(t, "some are over", over, want...)
	wantPayCode(t, "one more when some are over", over, authorised("more", 5), impl.ErrFull, want...)
	wantPayCode(t, "what is there goes on", over, captured(there[30].Id, 31), impl.OK, slices.Replace(slices.Clone(want), 30, 31, closed(there[30].Id, 31, 31, 0))...)
}

func TestP12AsManyActsAsThereMayBe(t *testing.T) {
	for _, act := range payActs(impl.PayAct{}, authorised("a", 1), reversed("a")) {
		for count, want := range map[int]int{impl.MaxActs: impl.OK, impl.MaxActs + 1: impl.ErrMany, impl.MaxList: impl.ErrMany, impl.MaxList + 1: impl.ErrLong, 3 * impl.MaxList: impl.ErrLong} {
			codes, got, code := impl.PayRun(slices.Repeat(payActs(act), count))
			if code != want || code == impl.OK && len(codes) != count || code != impl.OK && (len(codes) != 0 || len(got) != 0) {
				t.Errorf("%d acts: %d told, %v, %d; want code %d", count, len(codes), got, code, want)
			}
		}
	}
	acts, payments := manyPayments(impl.MaxPayments)
	for i, p := range payments {
		acts = append(acts, captured(p.Id, p.Authorised), refunded(p.Id, p.Authorised))
		payments[i] = closed(p.Id, p.Authorised, p.Authorised, p.Authorised)
	}
	acts = append(acts, slices.Repeat(payActs(authorised("more", 1)), impl.MaxActs-len(acts))...)
	codes := append(alike(impl.OK, 3*impl.MaxPayments), alike(impl.ErrFull, impl.MaxActs-3*impl.MaxPayments)...)
	wantPayCodes(t, "MaxActs acts", acts, codes, payments...)
}

func TestP12PaymentsAreToldAsTheyBegan(t *testing.T) {
	wantPayCodes(t, "whatever is done to them, and whatever their Ids", payActs(
		authorised("m", 10), authorised("z", 20), captured("z", 20), captured("a", 1), authorised("a", 30), reversed("m"), authorised("", 1), authorised("k", 0), authorised("B", 40), refunded("z", 5), authorised("k", 50),
	), []int{0, 0, 0, impl.ErrNone, 0, 0, impl.ErrName, impl.ErrRange, 0, 0, 0},
		closed("m", 10, 0, 0), closed("z", 20, 20, 5), open("a", 30, 0, 0), open("B", 40, 0, 0), open("k", 50, 0, 0))
}

// Acts of one payment hang on no other, as long as there is room.
func TestP12PaymentsSideBySide(t *testing.T) {
	r := fixed()
	for range 300 {
		ids := someNames(2 + r.IntN(5))
		acts := somePayActs(r, 80, ids, 1+r.IntN(12), 1, 3, 10, 2, 10)
		codes, payments, _ := impl.PayRun(acts)
		for _, id := range ids {
			var own []impl.PayAct
			var ownCodes []int
			for i, act := range acts {
				if act.Id == id {
					own, ownCodes = append(own, act), append(ownCodes, codes[i])
				}
			}
			alone, ownPayments, code := impl.PayRun(own)
			beside := slices.DeleteFunc(slices.Clone(payments), func(p impl.Payment) bool { return p.Id != id })
			if code != impl.OK || !slices.Equal(alone, ownCodes) || !slices.Equal(ownPayments, beside) {
				t.Fatalf("%s alone: %v, %v; beside others %v, %v, of %v", id, alone, ownPayments, ownCodes, beside, acts)
			}
		}
	}
}

// payLog keeps the acts that had no code, and reckons what stands anew from them each time.
type payLog []impl.PayAct

func (l payLog) sum(kind int, id string) int {
	sum := 0
	for _, act := range l {
		if act.Kind == kind && act.Id == id {
			sum += act.Amount
		}
	}
	return sum
}

func (l payLog) has(kind int, id string) bool {
	return slices.ContainsFunc(l, func(act impl.PayAct) bool { return act.Kind == kind && act.Id == id })
}

func (l payLog) open(id string) bool {
	return !l.has(impl.PyReverse, id) && l.sum(impl.PyCapture, id) != l.sum(impl.PyAuth, id)
}

func (l payLog) begun() []string {
	var ids []string
	for _, act := range l {
		if act.Kind == impl.PyAuth {
			ids = append(ids, act.Id)
		}
	}
	return ids
}

// code asks for each fault in the order of the document's words.
func (l payLog) code(act impl.PayAct) int {
	there := l.has(impl.PyAuth, act.Id)
	type fault struct {
		is   bool
		code int
	}
	faults := map[int][]fault{
		impl.PyAuth: {
			{!impl.NameOK(act.Id), impl.ErrName}, {there, impl.ErrTwice}, {act.Amount < 1 || act.Amount > 1000000000, impl.ErrRange}, {len(l.begun()) == 60, impl.ErrFull},
		},
		impl.PyCapture: {
			{!there, impl.ErrNone}, {!l.open(act.Id), impl.ErrState}, {act.Amount < 1, impl.ErrRange}, {act.Amount > l.sum(impl.PyAuth, act.Id)-l.sum(impl.PyCapture, act.Id), impl.ErrShort},
		},
		impl.PyReverse: {
			{!there, impl.ErrNone}, {!l.open(act.Id), impl.ErrState},
		},
		impl.PyRefund: {
			{!there, impl.ErrNone}, {act.Amount < 1, impl.ErrRange}, {act.Amount > l.sum(impl.PyCapture, act.Id)-l.sum(impl.PyRefund, act.Id), impl.ErrShort},
		},
	}
	asked, known := faults[act.Kind]
	if !known {
		return impl.ErrKind
	}
	for _, f := range asked {
		if f.is {
			return f.code
		}
	}
	return impl.OK
}

func payRunByWords(acts []impl.PayAct) ([]int, []impl.Payment) {
	var log payLog
	var codes []int
	for _, act := range acts {
		code := log.code(act)
		codes = append(codes, code)
		if code == impl.OK {
			log = append(log, act)
		}
	}
	var payments []impl.Payment
	for _, id := range log.begun() {
		payments = append(payments, impl.Payment{Id: id, Authorised: log.sum(impl.PyAuth, id), Captured: log.sum(impl.PyCapture, id), Refunded: log.sum(impl.PyRefund, id), Open: log.open(id)})
	}
	return codes, payments
}

// somePayActs draws kinds by their weights; small amounts, so that many acts take just what is left.
func somePayActs(r *rand.Rand, count int, ids []string, greatest int, weights ...int) []impl.PayAct {
	var kinds []int
	for kind, weight := range weights {
		kinds = append(kinds, alike(kind, weight)...)
	}
	var acts []impl.PayAct
	for range count {
		act := impl.PayAct{Kind: kinds[r.IntN(len(kinds))], Id: ids[r.IntN(len(ids))], Amount: r.IntN(greatest + 2)}
		if act.Kind == impl.PyAuth {
			act.Amount *= 2
		}
		acts = append(acts, act)
	}
	return acts
}

func payWeights() [][]int {
	return [][]int{{1, 10, 20, 2, 20}, {0, 30, 5, 5, 5}, {2, 5, 20, 1, 30}, {0, 60, 3, 1, 2}}
}

func TestP12LikeALogOfActs(t *testing.T) {
	r := fixed()
	seen := map[string]int{}
	for round := range 1200 {
		noNames := textsThatAreNoNames()
		ids := append(someNames([]int{1, 3, 10, 70}[round/4%4]), noNames[r.IntN(len(noNames))])
		acts := somePayActs(r, r.IntN(impl.MaxActs+1), ids, 1+r.IntN(10), payWeights()[round%4]...)
		codes, got, code := impl.PayRun(acts)
		wantCodes, want := payRunByWords(acts)
		if code != impl.OK || !slices.Equal(codes, wantCodes) || !slices.Equal(got, want) {
			t.Fatalf("PayRun(%v) = %v, %v, %d; want %v, %v", acts, codes, got, code, wantCodes, want)
		}
		for i, code := range codes {
			seen[fmt.Sprint(acts[i].Kind, " ", impl.CodeWord(code))]++
		}
	}
	for _, drawn := range []string{"0 kind", "1 ok", "1 name", "1 twice", "1 range", "1 full", "2 ok", "2 none", "2 state", "2 range", "2 short", "3 ok", "3 none", "3 state", "4 ok", "4 none", "4 range", "4 short"} {
		if seen[drawn] == 0 {
			t.Error("no act drawn has the kind and code", drawn, seen)
		}
	}
}

func TestP12WhatIsDrawnIsKept(t *testing.T) {
	r := fixed()
	for round := range 60 {
		wantPaymentsKept(t, "drawn", somePayActs(r, impl.MaxActs, someNames([]int{2, 8, 66}[round%3]), []int{3, 9, most / 2}[round/3%3], payWeights()[round%4]...))
	}
}

// Acts with a code may as well not be there.
func TestP12AnActWithACodeChangesNothing(t *testing.T) {
	r := fixed()
	for round := range 200 {
		acts := somePayActs(r, impl.MaxActs, someNames([]int{2, 8, 66}[round%3]), 8, payWeights()[round%4]...)
		codes, got, _ := impl.PayRun(acts)
		var without []impl.PayAct
		for i, code := range codes {
			if code == impl.OK {
				without = append(without, acts[i])
			}
		}
		again, same, code := impl.PayRun(without)
		if code != impl.OK || !slices.Equal(again, alike(impl.OK, len(without))) || !slices.Equal(got, same) {
			t.Errorf("%v without the acts that had a code: %v, %v; with them: %v", acts, again, same, got)
		}
	}
}

// Each run begins anew, whatever was run ahead of it.
func TestP12NoRunHangsOnOneAhead(t *testing.T) {
	r := fixed()
	runs := [][]impl.PayAct{nil, mixedPayActs(), payActs(authorised("n0", 5)), payActs(captured("n0", 5)), payActs(authorised("n0", 5), captured("n0", 5), refunded("n0", 5))}
	for round := range 20 {
		runs = append(runs, somePayActs(r, impl.MaxActs, someNames([]int{2, 8, 66}[round%3]), 8, payWeights()[round%4]...))
	}
	for _, ahead := range runs {
		for _, acts := range runs {
			impl.PayRun(ahead)
			codes, got, code := impl.PayRun(acts)
			wantCodes, want := payRunByWords(acts)
			if code != impl.OK || !slices.Equal(codes, wantCodes) || !slices.Equal(got, want) {
				t.Fatalf("PayRun(%v), behind that of %v: %v, %v, %d; want %v, %v", acts, ahead, codes, got, code, wantCodes, want)
			}
		}
	}
}

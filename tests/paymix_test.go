package tests

import (
	"math"
	"math/big"
	"math/rand/v2"
	"slices"
	"testing"

	"loop.example/g00067/impl"
)

func voucher(amount int) impl.Tender { return impl.Tender{Kind: impl.TdVoucher, Amount: amount} }

func card(amount int) impl.Tender { return impl.Tender{Kind: impl.TdCard, Amount: amount} }

func cash(amount int) impl.Tender { return impl.Tender{Kind: impl.TdCash, Amount: amount} }

func foreign(amount, n, d int) impl.Tender {
	return impl.Tender{Kind: impl.TdForeign, Amount: amount, Rate: rate(n, d)}
}

func tendersOf(tenders ...impl.Tender) []impl.Tender { return tenders }

func wantPaid(t *testing.T, what string, total int, tenders []impl.Tender, want impl.Paid) {
	t.Helper()
	got, code := impl.PayMix(total, tenders)
	if code != impl.OK || got != want {
		t.Errorf("%s: PayMix(%d, %v) = %+v, %d; want %+v", what, total, tenders, got, code, want)
	}
}

func wantUnpaid(t *testing.T, what string, total int, tenders []impl.Tender, want int) {
	t.Helper()
	got, code := impl.PayMix(total, tenders)
	if code != want || got != (impl.Paid{}) {
		t.Errorf("%s: PayMix(%d, %.300v) = %+v, %d; want %d", what, total, tenders, got, code, want)
	}
}

// paidByWords goes kind by kind, with numbers of any size.
func paidByWords(total int, tenders []impl.Tender) (impl.Paid, int) {
	has := map[int]*big.Int{impl.TdVoucher: new(big.Int), impl.TdCard: new(big.Int), impl.TdCash: new(big.Int)}
	for _, tender := range tenders {
		worth, kind := big.NewInt(int64(tender.Amount)), tender.Kind
		if kind == impl.TdForeign {
			kind = impl.TdCash
			worth.Div(worth.Mul(worth, big.NewInt(int64(tender.Rate.N))), big.NewInt(int64(tender.Rate.D)))
		}
		has[kind].Add(has[kind], worth)
	}
	left := total
	use := func(kind int) (paid, above int) {
		all := int(has[kind].Int64())
		for above = all; above > 0 && left > 0; {
			step := min(above, left)
			paid, above, left = paid+step, above-step, left-step
		}
		return paid, above
	}
	var told impl.Paid
	told.Voucher, told.Lost = use(impl.TdVoucher)
	card, above := use(impl.TdCard)
	if above > 0 {
		return impl.Paid{}, impl.ErrRange
	}
	told.Card = card
	told.Cash, told.Change = use(impl.TdCash)
	told.Missing = left
	return told, impl.OK
}

func TestP10PaidByHand(t *testing.T) {
	wantPaid(t, "nothing is tendered", 1000, nil, impl.Paid{Missing: 1000})
	wantPaid(t, "nothing is due, nothing tendered", 0, nil, impl.Paid{})
	wantPaid(t, "a voucher", 100, tendersOf(voucher(60)), impl.Paid{Voucher: 60, Missing: 40})
	wantPaid(t, "a voucher that does", 100, tendersOf(voucher(100)), impl.Paid{Voucher: 100})
	wantPaid(t, "a voucher of which some is lost", 100, tendersOf(voucher(101)), impl.Paid{Voucher: 100, Lost: 1})
	wantPaid(t, "vouchers together", 100, tendersOf(voucher(60), voucher(30), voucher(45)), impl.Paid{Voucher: 100, Lost: 35})
	wantPaid(t, "a card", 100, tendersOf(card(60)), impl.Paid{Card: 60, Missing: 40})
	wantPaid(t, "a card that does", 100, tendersOf(card(100)), impl.Paid{Card: 100})
	wantPaid(t, "cards together", 100, tendersOf(card(60), card(40)), impl.Paid{Card: 100})
	wantPaid(t, "cash", 100, tendersOf(cash(60)), impl.Paid{Cash: 60, Missing: 40})
	wantPaid(t, "cash that does", 100, tendersOf(cash(100)), impl.Paid{Cash: 100})
	wantPaid(t, "cash and change", 100, tendersOf(cash(60), cash(50)), impl.Paid{Cash: 100, Change: 10})
	wantPaid(t, "foreign cash", 100, tendersOf(foreign(60, 3, 2)), impl.Paid{Cash: 90, Missing: 10})
	wantPaid(t, "foreign cash and change", 100, tendersOf(foreign(100, 3, 2)), impl.Paid{Cash: 100, Change: 50})
	wantPaid(t, "cash of both", 100, tendersOf(foreign(60, 3, 2), cash(20)), impl.Paid{Cash: 100, Change: 10})
	wantPaid(t, "what vouchers lose, cash does not get", 100, tendersOf(voucher(130), cash(20)), impl.Paid{Voucher: 100, Lost: 30, Change: 20})
	wantPaid(t, "nothing is due", 0, tendersOf(voucher(5), cash(7), foreign(8, 1, 1)), impl.Paid{Lost: 5, Change: 15})
	wantPaid(t, "cards and cash behind a voucher", 1000, tendersOf(voucher(200), card(300), cash(400)), impl.Paid{Voucher: 200, Card: 300, Cash: 400, Missing: 100})
}

func TestP10CardsThatAreJustWhatIsLeft(t *testing.T) {
	wantPaid(t, "just what is left", 1000, tendersOf(voucher(200), card(500), card(300)), impl.Paid{Voucher: 200, Card: 800})
	wantUnpaid(t, "one more", 1000, tendersOf(voucher(200), card(500), card(301)), impl.ErrRange)
	wantPaid(t, "just what is left, and cash", 1000, tendersOf(cash(50), voucher(200), card(800)), impl.Paid{Voucher: 200, Card: 800, Change: 50})
	wantUnpaid(t, "cash does not make room for cards", 1000, tendersOf(cash(500), card(1001)), impl.ErrRange)
	wantUnpaid(t, "nothing is left for a card", 1000, tendersOf(voucher(1000), card(1)), impl.ErrRange)
	wantUnpaid(t, "vouchers that lose leave nothing", 1000, tendersOf(card(1), voucher(5000)), impl.ErrRange)
	wantUnpaid(t, "nothing is due", 0, tendersOf(card(1)), impl.ErrRange)
	wantPaid(t, "the most by card", most, tendersOf(card(most)), impl.Paid{Card: most})
	wantUnpaid(t, "more by cards", most, tendersOf(card(most), card(1)), impl.ErrRange)
	wantUnpaid(t, "far more by cards", most, slices.Repeat(tendersOf(card(most)), impl.MaxTenders), impl.ErrRange)
	wantPaid(t, "all but one", most, tendersOf(card(most-1)), impl.Paid{Card: most - 1, Missing: 1})
}

func TestP10TheOrderOfTendersDoesNotMatter(t *testing.T) {
	tenders := tendersOf(cash(300), voucher(200), foreign(333, 1, 2), card(400), voucher(1))
	want := impl.Paid{Voucher: 201, Card: 400, Cash: 399, Change: 67}
	r := fixed()
	for range 100 {
		r.Shuffle(len(tenders), func(i, j int) { tenders[i], tenders[j] = tenders[j], tenders[i] })
		wantPaid(t, "in any order", 1000, tenders, want)
	}
}

func TestP10ForeignCashIsRoundedDown(t *testing.T) {
	wantPaid(t, "a third", 100, tendersOf(foreign(100, 1, 3)), impl.Paid{Cash: 33, Missing: 67})
	wantPaid(t, "two thirds", 100, tendersOf(foreign(100, 2, 3)), impl.Paid{Cash: 66, Missing: 34})
	wantPaid(t, "each of its own", 100, tendersOf(foreign(1, 1, 2), foreign(1, 1, 2), foreign(199, 1, 100)), impl.Paid{Cash: 1, Missing: 99})
	wantPaid(t, "to nothing", 100, tendersOf(foreign(9999, 1, 10000)), impl.Paid{Missing: 100})
	wantPaid(t, "to just one", 100, tendersOf(foreign(10000, 1, 10000)), impl.Paid{Cash: 1, Missing: 99})
	wantPaid(t, "a rate of nothing", 100, tendersOf(foreign(most, 0, 1)), impl.Paid{Missing: 100})
	wantPaid(t, "nothing, where nothing is due", 0, tendersOf(foreign(1, 0, 10000)), impl.Paid{})
	wantPaid(t, "a rate of one", most, tendersOf(foreign(most, 10000, 10000)), impl.Paid{Cash: most})
	wantPaid(t, "very much", 1, tendersOf(foreign(most, 10000, 1)), impl.Paid{Cash: 1, Change: most*10000 - 1})
	wantPaid(t, "the most there is", most, slices.Repeat(tendersOf(foreign(most, 10000, 1)), impl.MaxTenders), impl.Paid{Cash: most, Change: most * 199999})
	wantPaid(t, "very much, rounded down", 0, tendersOf(foreign(most, 10000, 9999)), impl.Paid{Change: 1000100010})
}

func TestP10AmountsAtTheirEnds(t *testing.T) {
	wantPaid(t, "one of each", 4, tendersOf(voucher(1), card(1), cash(1), foreign(1, 1, 1)), impl.Paid{Voucher: 1, Card: 1, Cash: 2})
	wantPaid(t, "the most cash", most, tendersOf(cash(most)), impl.Paid{Cash: most})
	wantPaid(t, "nothing is due", 0, tendersOf(voucher(most), cash(most)), impl.Paid{Lost: most, Change: most})
	wantPaid(t, "as many vouchers as may be", most, slices.Repeat(tendersOf(voucher(most)), impl.MaxTenders), impl.Paid{Voucher: most, Lost: 19 * most})
	wantPaid(t, "as much cash as may be", 1, slices.Repeat(tendersOf(cash(most)), impl.MaxTenders), impl.Paid{Cash: 1, Change: 20*most - 1})
	wantPaid(t, "as many as may be of one", 20, slices.Repeat(tendersOf(card(1)), impl.MaxTenders), impl.Paid{Card: 20})
	for _, total := range []int{-1, most + 1, math.MinInt, math.MaxInt} {
		wantUnpaid(t, "no such total", total, nil, impl.ErrBad)
		wantUnpaid(t, "no such total", total, tendersOf(cash(1)), impl.ErrBad)
	}
	for _, amount := range []int{0, -1, most + 1, math.MinInt, math.MaxInt} {
		for _, tender := range tendersOf(voucher(amount), card(amount), cash(amount), foreign(amount, 1, 1), foreign(amount, 0, 1), foreign(amount, 10000, 1)) {
			wantUnpaid(t, "no such amount", 1000, tendersOf(tender), impl.ErrBad)
			wantUnpaid(t, "no such amount behind another", 1000, tendersOf(cash(1), tender), impl.ErrBad)
			wantUnpaid(t, "no such amount ahead of another", 1000, tendersOf(tender, cash(1)), impl.ErrBad)
		}
	}
}

// wrongTenders are wrong by their kind or rate alone.
func wrongTenders() []impl.Tender {
	tenders := tendersOf(foreign(5, 0, 0), foreign(5, 1, 0), foreign(5, -1, 1), foreign(5, 10001, 1), foreign(5, 1, 10001), foreign(5, 1, -1), foreign(5, math.MaxInt, math.MaxInt), foreign(5, math.MinInt, math.MinInt), foreign(5, 10000, math.MaxInt))
	for _, kind := range []int{math.MinInt, -1, 0, 5, 6, math.MaxInt} {
		tenders = append(tenders, impl.Tender{Kind: kind, Amount: 5}, impl.Tender{Kind: kind, Amount: 5, Rate: rate(1, 1)})
	}
	for kind := impl.TdVoucher; kind <= impl.TdCash; kind++ {
		for _, r := range []impl.Rate{rate(1, 1), rate(0, 1), rate(1, 0), rate(-1, 0), rate(0, -1), rate(10000, 10000)} {
			tenders = append(tenders, impl.Tender{Kind: kind, Amount: 5, Rate: r})
		}
	}
	return tenders
}

func TestP10TendersThatAreWrong(t *testing.T) {
	for _, tender := range wrongTenders() {
		wantUnpaid(t, "a wrong tender", 1000, tendersOf(tender), impl.ErrBad)
		wantUnpaid(t, "a wrong tender where nothing is due", 0, tendersOf(tender), impl.ErrBad)
		wantUnpaid(t, "a wrong tender ahead of others", 1000, tendersOf(tender, voucher(1), cash(1)), impl.ErrBad)
		wantUnpaid(t, "a wrong tender behind others", 1000, tendersOf(voucher(2000), cash(1), tender), impl.ErrBad)
		wantUnpaid(t, "a wrong tender among as many as may be", 1000, append(slices.Repeat(tendersOf(cash(1)), impl.MaxTenders-1), tender), impl.ErrBad)
	}
}

func TestP10WhichFaultOfPayMixComesFirst(t *testing.T) {
	many := slices.Repeat(tendersOf(cash(1)), impl.MaxTenders+1)
	wantPaid(t, "as many as may be", 20, many[:impl.MaxTenders], impl.Paid{Cash: 20})
	wantUnpaid(t, "one too many", 21, many, impl.ErrMany)
	wantUnpaid(t, "too many ahead of a wrong total", -1, many, impl.ErrMany)
	wantUnpaid(t, "too many ahead of wrong ones", 20, make([]impl.Tender, impl.MaxTenders+1), impl.ErrMany)
	wantUnpaid(t, "too many ahead of cards", 0, slices.Repeat(tendersOf(card(1)), impl.MaxTenders+1), impl.ErrMany)
	wantUnpaid(t, "a list at its limit", 20, make([]impl.Tender, impl.MaxList), impl.ErrMany)
	wantUnpaid(t, "a list beyond it", 20, make([]impl.Tender, impl.MaxList+1), impl.ErrLong)
	wantUnpaid(t, "a list beyond it ahead of a wrong total", -1, slices.Repeat(many[:1], impl.MaxList+1), impl.ErrLong)
	wantUnpaid(t, "a wrong tender ahead of cards", 10, tendersOf(card(11), cash(0)), impl.ErrBad)
	wantUnpaid(t, "a wrong total ahead of cards", -1, tendersOf(card(11)), impl.ErrBad)
}

func someTenders(r *rand.Rand, count, greatest int) []impl.Tender {
	var tenders []impl.Tender
	for range count {
		tender := impl.Tender{Kind: []int{1, 2, 3, 3, 4, 4, 4}[r.IntN(7)], Amount: 1 + r.IntN(greatest)}
		if tender.Kind == impl.TdForeign {
			tender.Rate = anyRate(r)
		}
		tenders = append(tenders, tender)
	}
	return tenders
}

func TestP10PaidByWords(t *testing.T) {
	r := fixed()
	seen := map[int]int{}
	for range 20000 {
		greatest := []int{3, 100, 10000, most}[r.IntN(4)]
		tenders := someTenders(r, r.IntN(impl.MaxTenders+1), greatest)
		total := min(r.IntN(1+greatest*(1+r.IntN(8))), most)
		want, wantCode := paidByWords(total, tenders)
		got, code := impl.PayMix(total, tenders)
		if got != want || code != wantCode {
			t.Fatalf("PayMix(%d, %v) = %+v, %d; want %+v, %d", total, tenders, got, code, want, wantCode)
		}
		if code == impl.OK && got.Voucher+got.Card+got.Cash+got.Missing != total {
			t.Fatalf("PayMix(%d, %v) = %+v does not add up", total, tenders, got)
		}
		if got.Change > 0 && got.Missing > 0 {
			t.Fatalf("PayMix(%d, %v) = %+v: change, and something is missing", total, tenders, got)
		}
		seen[code]++
	}
	if seen[impl.OK] < 1000 || seen[impl.ErrRange] < 1000 {
		t.Error("too few draws of one kind", seen)
	}
}

// Of change that is made of coins that are held the buyer gets just what cash had above the total.
func TestP10ChangeOfWhatWasPaid(t *testing.T) {
	got, code := impl.PayMix(1234, tendersOf(voucher(34), cash(2000)))
	if code != impl.OK || got.Change != 800 {
		t.Fatal("PayMix", got, code)
	}
	wantChange(t, "what is paid back", got.Change, coinsOf([2]int{50, 3}, [2]int{200, 4}, [2]int{500, 1}), []int{2, 1, 1}, impl.OK)
}

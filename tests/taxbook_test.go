package tests

import (
	"fmt"
	"math"
	"math/big"
	"math/rand/v2"
	"slices"
	"strings"
	"testing"

	"loop.example/g00067/impl"
)

// splitByWords: gross times N / (D + N), to the nearest cent, of two as near the even one.
func splitByWords(gross int, r impl.Rate) impl.Taxed {
	part := new(big.Rat).Mul(ratio(gross), big.NewRat(int64(r.N), int64(r.D+r.N)))
	tax := int(roundedRat(part, impl.RdEven).Int64())
	return impl.Taxed{Gross: gross, Net: gross - tax, Tax: tax}
}

// linesOf: a class and a gross each.
func linesOf(pairs [][2]int) []impl.TaxLine {
	lines := make([]impl.TaxLine, len(pairs))
	for i, p := range pairs {
		lines[i] = impl.TaxLine{Class: p[0], Gross: p[1]}
	}
	return lines
}

// sumsOf: a class, its gross, net and tax each.
func sumsOf(rows [][4]int) []impl.TaxSum {
	sums := make([]impl.TaxSum, len(rows))
	for i, r := range rows {
		sums[i] = impl.TaxSum{Class: r[0], Gross: r[1], Net: r[2], Tax: r[3]}
	}
	return sums
}

// bookByWords looks for the faults in their order and goes through the lines once for each class.
func bookByWords(rows []impl.TaxRow, place string, day int, lines []impl.TaxLine) ([]impl.TaxSum, int) {
	for _, line := range lines {
		if line.Class < 1 || line.Class > 9 || line.Gross < -most || line.Gross > most {
			return nil, impl.ErrRange
		}
	}
	var book []impl.TaxSum
	over := false
	for class := 1; class <= 9; class++ {
		gross, count := 0, 0
		for _, line := range lines {
			if line.Class == class {
				gross += line.Gross
				count++
			}
		}
		if count == 0 {
			continue
		}
		r, code := rateByWords(rows, class, place, day)
		if code != impl.OK {
			return nil, code
		}
		over = over || gross < -most || gross > most
		taxed := splitByWords(gross, r)
		book = append(book, impl.TaxSum{Class: class, Gross: gross, Net: taxed.Net, Tax: taxed.Tax})
	}
	if over {
		return nil, impl.ErrOver
	}
	return book, impl.OK
}

func TestP4SplitByHand(t *testing.T) {
	for _, c := range []struct{ gross, n, d, net, tax int }{
		{119, 19, 100, 100, 19}, {-119, 19, 100, -100, -19}, {100, 19, 100, 84, 16}, {107, 7, 100, 100, 7}, {0, 19, 100, 0, 0}, {1, 19, 100, 1, 0},
		// Just half a cent, the cent below even and odd, of either sign.
		{1, 1, 1, 1, 0}, {3, 1, 1, 1, 2}, {5, 1, 1, 3, 2}, {7, 1, 1, 3, 4}, {9, 1, 1, 5, 4}, {-1, 1, 1, -1, 0}, {-3, 1, 1, -1, -2}, {-5, 1, 1, -3, -2}, {-7, 1, 1, -3, -4}, {2, 1, 3, 2, 0}, {6, 1, 3, 4, 2}, {10, 1, 3, 8, 2}, {-10, 1, 3, -8, -2}, {14, 1, 3, 10, 4}, {-14, 1, 3, -10, -4},
		{1, 5000, 5000, 1, 0}, {3, 5000, 5000, 1, 2}, {999999999, 1, 1, 499999999, 500000000}, {-999999999, 1, 1, -499999999, -500000000}, {999999997, 1, 1, 499999999, 499999998},
		// Just beside a half.
		{4999, 1, 9999, 4999, 0}, {5000, 1, 9999, 5000, 0}, {5001, 1, 9999, 5000, 1}, {5, 10, 91, 5, 0}, {5, 10, 89, 4, 1},
		// Rates of 0 and the greatest, 1 / 1 written in other ways, amounts at their bounds.
		{500, 0, 1, 500, 0}, {most, 0, 10000, most, 0}, {-most, 0, 1, -most, 0}, {10001, 10000, 1, 1, 10000}, {5000, 10000, 1, 0, 5000}, {5001, 10000, 1, 1, 5000}, {most, 10000, 1, 99990, 999900010}, {-most, 10000, 1, -99990, -999900010}, {most, 10000, 10000, 500000000, 500000000}, {-most, 1, 1, -500000000, -500000000}, {most, 1, 10000, 999900010, 99990}, {-most, 1, 10000, -999900010, -99990},
	} {
		want := impl.Taxed{Gross: c.gross, Net: c.net, Tax: c.tax}
		if got, code := impl.Split(c.gross, rate(c.n, c.d)); got != want || code != impl.OK {
			t.Errorf("Split(%d, %d / %d) = %v, %d; not %v", c.gross, c.n, c.d, got, code, want)
		}
	}
}

func TestP4NetAndTaxAreWhatWasTaken(t *testing.T) {
	r := fixed()
	halves := 0
	for i := range 200000 {
		gross, q := anyAmount(r), anyRate(r)
		if i%4 == 0 { // an even divisor of small size, so that halves come often
			q = rate(1+r.IntN(5), 1)
			q.D += 2*r.IntN(4) + q.N%2
		}
		if 2*gross*q.N%(q.D+q.N) == 0 && gross*q.N%(q.D+q.N) != 0 {
			halves++
		}
		got, code := impl.Split(gross, q)
		if code != impl.OK || got.Gross != gross || got.Net+got.Tax != gross {
			t.Fatalf("Split(%d, %v) = %v, %d: net and tax are not what was taken", gross, q, got, code)
		}
		if want := splitByWords(gross, q); got != want {
			t.Fatalf("Split(%d, %v) = %v, not %v", gross, q, got, want)
		}
		if back, code := impl.Split(-gross, q); code != impl.OK || back != (impl.Taxed{Gross: -gross, Net: -got.Net, Tax: -got.Tax}) {
			t.Fatalf("Split(%d, %v) = %v, %d, which does not mirror %v", -gross, q, back, code, got)
		}
	}
	if halves < 1000 {
		t.Error("too few halves of a cent:", halves)
	}
}

func TestSplitFaults(t *testing.T) {
	for _, gross := range []int{most + 1, -most - 1, math.MaxInt, math.MinInt} {
		for _, q := range []impl.Rate{rate(0, 1), rate(19, 100), rate(0, 0), rate(-1, 1)} {
			if got, code := impl.Split(gross, q); got != (impl.Taxed{}) || code != impl.ErrBad {
				t.Errorf("Split(%d, %v) = %v, %d; not ErrBad", gross, q, got, code)
			}
		}
	}
	for _, q := range oddRates() {
		for _, gross := range []int{0, 1, -119, most, -most} {
			got, code := impl.Split(gross, q)
			if impl.RateOK(q) && (code != impl.OK || got != splitByWords(gross, q)) {
				t.Errorf("Split(%d, %v) = %v, %d", gross, q, got, code)
			}
			if !impl.RateOK(q) && (got != (impl.Taxed{}) || code != impl.ErrBad) {
				t.Errorf("Split(%d, %v) = %v, %d; not ErrBad", gross, q, got, code)
			}
		}
	}
}

func bookRows() []impl.TaxRow {
	return []impl.TaxRow{
		{Class: 1, From: 0, To: 100, Rate: rate(19, 100)},
		{Class: 1, Place: "north", From: 10, To: 20, Rate: rate(16, 100)},
		{Class: 2, From: 0, To: 50, Rate: rate(7, 100)},
		{Class: 9, Place: "north", From: 0, To: 30, Rate: rate(1, 1)},
		{Class: 5, From: 0, To: 100, Rate: rate(0, 1)},
	}
}

func TestP4BookByHand(t *testing.T) {
	for i, c := range []struct {
		place string
		day   int
		lines [][2]int
		want  [][4]int
	}{
		{"", 1, nil, nil}, {"", math.MinInt, [][2]int{}, nil},
		{"", 1, [][2]int{{1, 119}}, [][4]int{{1, 119, 100, 19}}},
		{"", 1, [][2]int{{2, 53}, {1, 100}, {2, 54}}, [][4]int{{1, 100, 84, 16}, {2, 107, 100, 7}}},
		{"north", 10, [][2]int{{9, 3}, {1, 116}, {5, 7}}, [][4]int{{1, 116, 100, 16}, {5, 7, 7, 0}, {9, 3, 1, 2}}},
		{"north", 20, [][2]int{{9, 5}, {1, 119}, {5, -7}}, [][4]int{{1, 119, 100, 19}, {5, -7, -7, 0}, {9, 5, 3, 2}}},
		// The sum is split, not the lines: each cent alone would have no tax.
		{"north", 10, [][2]int{{9, 1}, {9, 1}, {9, 1}, {9, 1}}, [][4]int{{9, 4, 2, 2}}},
		{"", 1, [][2]int{{1, 1}, {1, 1}, {1, 1}, {1, 1}}, [][4]int{{1, 4, 3, 1}}},
		// A class whose lines come to nothing has lines all the same.
		{"", 1, [][2]int{{2, 107}, {1, 0}, {2, -107}}, [][4]int{{1, 0, 0, 0}, {2, 0, 0, 0}}},
		{"", 1, [][2]int{{2, 107}, {2, -214}}, [][4]int{{2, -107, -100, -7}}},
		// Sums at the limits, beyond them on the way there.
		{"", 1, [][2]int{{5, most}, {5, 1}, {5, most}, {5, -most}, {5, -1}}, [][4]int{{5, most, most, 0}}},
		{"", 1, [][2]int{{5, -most}, {5, -most}, {5, most}}, [][4]int{{5, -most, -most, 0}}},
		{"", 1, [][2]int{{1, most - 1}, {1, 1}, {2, most}}, [][4]int{{1, most, 840336134, 159663866}, {2, most, 934579439, 65420561}}},
	} {
		if got, code := impl.TaxBook(bookRows(), c.place, c.day, linesOf(c.lines)); code != impl.OK || !slices.Equal(got, sumsOf(c.want)) {
			t.Errorf("case %d: TaxBook = %v, %d; not %v", i, got, code, c.want)
		}
	}
}

func someLines(r *rand.Rand, most int) []impl.TaxLine {
	lines := make([]impl.TaxLine, r.IntN(40))
	classes := 1 + r.IntN(impl.MaxClass)
	for i := range lines {
		lines[i] = impl.TaxLine{Class: 1 + r.IntN(classes), Gross: r.IntN(2*most+1) - most}
	}
	return lines
}

func TestP4TheBookDoesNotHangOnTheOrderOfLines(t *testing.T) {
	r := fixed()
	told := map[int]int{}
	for range 5000 {
		var rows []impl.TaxRow
		for class := 1; class <= impl.MaxClass && r.IntN(20) > 0; class++ { // so that most books find all their rates
			rows = append(rows, taxRow(class, "", 0, 30))
		}
		rows = someTaxRows(r, rows)
		place, day := []string{"", "north", "South", "east"}[r.IntN(4)], r.IntN(20)
		lines := someLines(r, []int{3, 1000, impl.MaxMoney / 4, impl.MaxMoney}[r.IntN(4)])
		want, wantCode := bookByWords(rows, place, day, lines)
		told[wantCode]++
		for range 3 {
			book, code := impl.TaxBook(rows, place, day, lines)
			if code != wantCode || !slices.Equal(book, want) {
				t.Fatalf("TaxBook(%v, %q, %d, %v) = %v, %d; not %v, %d", rows, place, day, lines, book, code, want, wantCode)
			}
			r.Shuffle(len(lines), func(i, j int) { lines[i], lines[j] = lines[j], lines[i] })
			r.Shuffle(len(rows), func(i, j int) { rows[i], rows[j] = rows[j], rows[i] })
		}
	}
	for _, code := range []int{impl.OK, impl.ErrNone, impl.ErrOver} {
		if told[code] < 500 {
			t.Error("too few answers of code", code, told)
		}
	}
}

func TestP4TheBookHasAllThatWasTaken(t *testing.T) {
	r := fixed()
	var rows []impl.TaxRow
	for class := 1; class <= impl.MaxClass; class++ {
		rows = append(rows, impl.TaxRow{Class: class, From: 0, To: impl.MaxDay, Rate: anyRate(r)})
	}
	for range 3000 {
		lines := someLines(r, 10000000)
		book, code := impl.TaxBook(rows, "north", r.IntN(impl.MaxDay), lines)
		left := 0
		for _, line := range lines {
			left += line.Gross
		}
		for i, sum := range book {
			left -= sum.Net + sum.Tax
			if i > 0 && sum.Class <= book[i-1].Class || sum.Net+sum.Tax != sum.Gross {
				t.Fatal("TaxBook", book)
			}
		}
		if code != impl.OK || left != 0 {
			t.Fatalf("TaxBook(%v) = %v, %d: %d is neither net nor tax", lines, book, code, left)
		}
	}
}

func TestTheLongestBook(t *testing.T) {
	lines := slices.Repeat([]impl.TaxLine{{Class: 5, Gross: most}, {Class: 5, Gross: -most}}, impl.MaxList/2)
	if book, code := impl.TaxBook(bookRows(), "", 0, lines); code != impl.OK || !slices.Equal(book, []impl.TaxSum{{Class: 5}}) {
		t.Error("MaxList lines that come to nothing:", book, code)
	}
	for _, gross := range []int{most, -most} {
		all := slices.Repeat([]impl.TaxLine{{Class: 1, Gross: gross}}, impl.MaxList)
		if book, code := impl.TaxBook(bookRows(), "", 0, all); code != impl.ErrOver || len(book) != 0 {
			t.Error("MaxList lines of the greatest size:", book, code)
		}
	}
}

func TestTaxBookFaults(t *testing.T) {
	wrong := []impl.TaxRow{{Class: 0}}
	long, tooLong := strings.Repeat("n", impl.MaxText), strings.Repeat("n", impl.MaxText+1)
	longest, over := [][2]int{{1, 1}}, [][2]int{{1, most}, {1, 1}}
	faulty := slices.Repeat([][2]int{{0, 0}}, impl.MaxList+1)
	for i, c := range []struct {
		rows  []impl.TaxRow
		place string
		day   int
		lines [][2]int
		code  int
	}{
		// Too long, whatever else is wrong; at the limit it is not.
		{bookRows(), tooLong, 0, nil, impl.ErrLong}, {wrong, tooLong, 0, longest, impl.ErrLong}, {bookRows(), "", 0, faulty, impl.ErrLong}, {wrong, "", 0, faulty, impl.ErrLong}, {manyTaxRows(impl.MaxList + 1), "", 0, nil, impl.ErrLong}, {make([]impl.TaxRow, impl.MaxList+1), "", -1, faulty, impl.ErrLong},
		{bookRows(), "", 0, slices.Repeat(longest, impl.MaxList+1), impl.ErrLong}, {bookRows(), "", 0, slices.Repeat(longest, impl.MaxList), impl.OK}, {bookRows(), long, 0, longest, impl.OK}, {make([]impl.TaxRow, impl.MaxList), "", 0, nil, impl.ErrBad}, {manyTaxRows(impl.MaxTaxRows + 1), "", 0, longest, impl.ErrBad}, {manyTaxRows(impl.MaxTaxRows), "", 0, longest, impl.OK},
		// Rows that are wrong come ahead of lines that are.
		{wrong, "", 0, nil, impl.ErrBad}, {wrong, "", 0, faulty[:1], impl.ErrBad}, {wrong, "", 0, over, impl.ErrBad}, {wrong, "", -1, longest, impl.ErrBad},
		// Lines out of bounds: the class, the gross; ahead of a class without a rate and of a sum too great, wherever they stand.
		{bookRows(), "", 0, [][2]int{{0, 1}}, impl.ErrRange}, {bookRows(), "", 0, [][2]int{{10, 1}}, impl.ErrRange}, {bookRows(), "", 0, [][2]int{{-1, 1}}, impl.ErrRange}, {bookRows(), "", 0, [][2]int{{math.MinInt, 1}}, impl.ErrRange}, {bookRows(), "", 0, [][2]int{{math.MaxInt, 1}}, impl.ErrRange},
		{bookRows(), "", 0, [][2]int{{1, most + 1}}, impl.ErrRange}, {bookRows(), "", 0, [][2]int{{1, -most - 1}}, impl.ErrRange}, {bookRows(), "", 0, [][2]int{{1, math.MinInt}}, impl.ErrRange}, {bookRows(), "", 0, [][2]int{{1, math.MaxInt}, {1, math.MaxInt}}, impl.ErrRange}, {bookRows(), "", 0, [][2]int{{1, most}, {1, -most}}, impl.OK},
		{bookRows(), "", 0, [][2]int{{3, 1}, {0, 1}}, impl.ErrRange}, {bookRows(), "", 0, [][2]int{{1, most}, {1, 1}, {1, most + 1}}, impl.ErrRange}, {nil, "", 0, [][2]int{{1, 1}, {2, 1}, {10, 1}}, impl.ErrRange},
		// Classes without a rate: none at all, not in this place, not on this day; ahead of a sum too great, whichever class is less.
		{nil, "", 0, longest, impl.ErrNone}, {nil, "", 0, nil, impl.OK}, {bookRows(), "", 0, [][2]int{{3, 1}}, impl.ErrNone}, {bookRows(), "south", 0, [][2]int{{9, 1}}, impl.ErrNone}, {bookRows(), "", 0, [][2]int{{9, 1}}, impl.ErrNone}, {bookRows(), "north", 30, [][2]int{{9, 1}}, impl.ErrNone}, {bookRows(), "north", 29, [][2]int{{9, 1}}, impl.OK},
		{bookRows(), "", 50, [][2]int{{1, 1}, {2, 1}}, impl.ErrNone}, {bookRows(), "", -1, longest, impl.ErrNone}, {bookRows(), "", 100, longest, impl.ErrNone}, {bookRows(), "", math.MaxInt, longest, impl.ErrNone}, {bookRows(), "", 0, [][2]int{{3, 0}}, impl.ErrNone},
		{bookRows(), "", 0, [][2]int{{1, most}, {1, 1}, {3, 1}}, impl.ErrNone}, {bookRows(), "", 0, [][2]int{{3, 1}, {5, most}, {5, 1}}, impl.ErrNone}, {bookRows(), "", 0, [][2]int{{3, most}, {3, 1}}, impl.ErrNone},
		// A sum that is no amount, of either sign, in any class.
		{bookRows(), "", 0, over, impl.ErrOver}, {bookRows(), "", 0, [][2]int{{1, -1}, {1, -most}}, impl.ErrOver}, {bookRows(), "", 0, [][2]int{{1, 1}, {5, most}, {2, 1}, {5, 1}}, impl.ErrOver}, {bookRows(), "", 0, [][2]int{{1, most}, {2, most}, {5, -most}}, impl.OK},
	} {
		book, code := impl.TaxBook(c.rows, c.place, c.day, linesOf(c.lines))
		if code != c.code || code != impl.OK && len(book) != 0 {
			t.Errorf("case %d: TaxBook = %v, %d; not %d", i, book, code, c.code)
		}
	}
}

func TestTaxBookOfWrongRows(t *testing.T) {
	for _, rows := range wrongTaxRows() {
		for _, lines := range [][][2]int{nil, {{1, 1}}, {{0, 1}}, {{1, most}, {1, 1}}} {
			if book, code := impl.TaxBook(rows, "", 0, linesOf(lines)); len(book) != 0 || code != impl.ErrBad {
				t.Errorf("TaxBook(%.200s) = %v, %d; not ErrBad", fmt.Sprint(rows), book, code)
			}
		}
	}
}

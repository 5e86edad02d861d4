package tests

import (
	"fmt"
	"math"
	"math/big"
	"math/rand/v2"
	"slices"
	"strings"
	"testing"

	"loop.example/g00067/impl"
)

func docLine(article string, units, amount int) impl.DocLine {
	return impl.DocLine{Article: article, Units: units, Amount: amount}
}

func docsOf(lines ...impl.DocLine) []impl.DocLine { return lines }

func verdict(article string, code int) impl.Verdict {
	return impl.Verdict{Article: article, Code: code}
}

func verdictsOf(list ...impl.Verdict) []impl.Verdict { return list }

// papers are an order, a receipt and an invoice.
type papers [3][]impl.DocLine

// nordPapers are right, and have each code and OK.
func nordPapers() papers {
	return papers{
		docsOf(docLine("tea", 10, 1000), docLine("rum", 10, 1000), docLine("jam", 10, 1000), docLine("salt", 5, 50), docLine("oil", 7, 70)),
		docsOf(docLine("oil", 7, 0), docLine("tea", 9, 0), docLine("rum", 12, 0), docLine("jam", 3, 0), docLine("gift", 1, 0)),
		docsOf(docLine("jam", 3, 301), docLine("rum", 11, 1), docLine("tea", 10, 1), docLine("oil", 7, 70)),
	}
}

func nordVerdicts() []impl.Verdict {
	return verdictsOf(verdict("gift", impl.ErrNone), verdict("jam", impl.ErrOver), verdict("oil", impl.OK), verdict("rum", impl.ErrMany), verdict("salt", impl.ErrHeld), verdict("tea", impl.ErrShort))
}

func (p papers) match() ([]impl.Verdict, int) { return impl.ThreeWay(p[0], p[1], p[2]) }

func (p papers) String() string { return fmt.Sprintf("%.200s", fmt.Sprint(p[0], p[1], p[2])) }

// with has another list at a place.
func (p papers) with(place int, list []impl.DocLine) papers {
	p[place] = list
	return p
}

func docsByWords(list []impl.DocLine) bool {
	if len(list) > 60 {
		return false
	}
	seen := map[string]int{}
	for _, l := range list {
		seen[l.Article]++
		if !impl.NameOK(l.Article) || seen[l.Article] > 1 || l.Units < 1 || l.Units > 100000 || l.Amount < 0 || l.Amount > 1000000000 {
			return false
		}
	}
	return true
}

func (p papers) code() int {
	right := true
	for _, list := range p {
		if len(list) > 4096 {
			return impl.ErrLong
		}
		right = right && docsByWords(list)
	}
	if !right {
		return impl.ErrBad
	}
	return impl.OK
}

// faultsByWords tells all that stands against one article, in the order of the words.
func (p papers) faultsByWords(article string) []int {
	var found [3]*impl.DocLine
	for place, list := range p {
		for i := range list {
			if list[i].Article == article {
				found[place] = &list[i]
			}
		}
	}
	ordered, received, invoiced := found[0], found[1], found[2]
	var faults []int
	if ordered == nil {
		faults = append(faults, impl.ErrNone)
	}
	if invoiced == nil {
		faults = append(faults, impl.ErrHeld)
	}
	if received == nil || invoiced != nil && received.Units < invoiced.Units {
		faults = append(faults, impl.ErrShort)
	}
	if ordered != nil && invoiced != nil && invoiced.Units > ordered.Units {
		faults = append(faults, impl.ErrMany)
	}
	if ordered != nil && invoiced != nil && big.NewRat(int64(invoiced.Amount), int64(invoiced.Units)).Cmp(big.NewRat(int64(ordered.Amount), int64(ordered.Units))) > 0 {
		faults = append(faults, impl.ErrOver)
	}
	return append(faults, impl.OK)
}

func (p papers) matchByWords() ([]impl.Verdict, int) {
	if code := p.code(); code != impl.OK {
		return nil, code
	}
	codes := map[string]int{}
	for _, list := range p {
		for _, l := range list {
			codes[l.Article] = p.faultsByWords(l.Article)[0]
		}
	}
	var list []impl.Verdict
	for article, code := range codes {
		list = append(list, verdict(article, code))
	}
	slices.SortFunc(list, func(a, b impl.Verdict) int { return strings.Compare(a.Article, b.Article) })
	return list, impl.OK
}

func wantVerdicts(t *testing.T, p papers, want []impl.Verdict, wantCode int) {
	t.Helper()
	if list, code := p.match(); code != wantCode || !slices.Equal(list, want) {
		t.Errorf("ThreeWay(%v) = %.300s, %d; want %.300s, %d", p, fmt.Sprint(list), code, fmt.Sprint(want), wantCode)
	}
}

func wantNoVerdicts(t *testing.T, p papers, code int) {
	t.Helper()
	wantVerdicts(t, p, nil, code)
}

func wantVerdictsByWords(t *testing.T, p papers) []impl.Verdict {
	t.Helper()
	want, code := p.matchByWords()
	wantVerdicts(t, p, want, code)
	return want
}

// manyDocs differ in their Articles alone, which are those from first on.
func manyDocs(first, count int) []impl.DocLine {
	var list []impl.DocLine
	for _, name := range someNames(first + count)[first:] {
		list = append(list, docLine(name, 3, 5))
	}
	return list
}

func rightDocs() [][]impl.DocLine {
	return [][]impl.DocLine{
		nil,
		{},
		docsOf(docLine("a", 1, 0)),
		docsOf(docLine("a", impl.MaxMany, impl.MaxMoney)),
		docsOf(docLine("a", 1, impl.MaxMoney), docLine("b", impl.MaxMany, 0)),
		docsOf(docLine("_", 1, 1), docLine("ä", 2, 2), docLine("Ж9", 3, 3), docLine(strings.Repeat("n", impl.MaxName), 4, 4)),
		nordPapers()[0],
		nordPapers()[1],
		nordPapers()[2],
		manyDocs(0, impl.MaxDocs-1),
		manyDocs(0, impl.MaxDocs),
	}
}

// wrongDocLines are each wrong by one thing alone.
func wrongDocLines() []impl.DocLine {
	var list []impl.DocLine
	for _, text := range textsThatAreNoNames() {
		list = append(list, docLine(text, 1, 1))
	}
	for _, n := range []int{math.MinInt, math.MinInt + 1, -impl.MaxMany, -1, 0, impl.MaxMany + 1, impl.MaxMoney, math.MaxInt32, math.MaxInt - 1, math.MaxInt} {
		list = append(list, docLine("wrong", n, 1))
	}
	for _, n := range []int{math.MinInt, math.MinInt + 1, -impl.MaxMoney, -1, impl.MaxMoney + 1, math.MaxInt32, math.MaxInt - 1, math.MaxInt} {
		list = append(list, docLine("wrong", 1, n))
	}
	return list
}

func wrongDocs() [][]impl.DocLine {
	lists := [][]impl.DocLine{
		manyDocs(0, impl.MaxDocs+1),
		manyDocs(0, impl.MaxDocs+2),
		manyDocs(0, 1000),
		make([]impl.DocLine, 1),
		make([]impl.DocLine, impl.MaxList),
		docsOf(docLine("a", 1, 1), docLine("a", 1, 1)),
		docsOf(docLine("a", 1, 1), docLine("b", 1, 1), docLine("a", 2, 3)),
		append(manyDocs(0, impl.MaxDocs-1), docLine("n0", 1, 1)),
		append(manyDocs(0, impl.MaxDocs-1), docLine("n58", 1, 1)),
	}
	for _, l := range wrongDocLines() {
		lists = append(lists, docsOf(l), docsOf(l, docLine("a", 1, 1)), docsOf(docLine("a", 1, 1), l), append(manyDocs(0, impl.MaxDocs-1), l))
	}
	return lists
}

func longDocs() [][]impl.DocLine {
	return [][]impl.DocLine{manyDocs(0, impl.MaxList+1), make([]impl.DocLine, impl.MaxList+1), slices.Repeat(docsOf(docLine("a", 1, 1)), 2*impl.MaxList)}
}

func TestP19ThreeListsByHand(t *testing.T) {
	wantVerdicts(t, nordPapers(), nordVerdicts(), impl.OK)
	line := func(units, amount int) []impl.DocLine { return docsOf(docLine("a", units, amount)) }
	var none []impl.DocLine
	for _, c := range []struct {
		p    papers
		code int
	}{
		{papers{line(5, 50), none, none}, impl.ErrHeld}, // an Article in one list alone
		{papers{none, line(5, 50), none}, impl.ErrNone},
		{papers{none, none, line(5, 50)}, impl.ErrNone},
		{papers{line(5, 50), line(5, 0), none}, impl.ErrHeld}, // in two
		{papers{line(5, 50), none, line(5, 50)}, impl.ErrShort},
		{papers{none, line(5, 0), line(5, 50)}, impl.ErrNone},
		{papers{line(5, 50), line(5, 0), line(5, 50)}, impl.OK}, // in all three
		{papers{line(5, 50), line(4, 0), line(5, 50)}, impl.ErrShort},
		{papers{line(5, 50), line(6, 0), line(5, 50)}, impl.OK}, // more came than the invoice has
		{papers{line(5, 50), line(5, 0), line(4, 40)}, impl.OK},
		{papers{line(5, 50), line(4, 0), line(4, 40)}, impl.OK}, // fewer came than were ordered
		{papers{line(5, 50), line(3, 0), line(4, 40)}, impl.ErrShort},
		{papers{line(5, 50), line(6, 0), line(6, 60)}, impl.ErrMany},
		{papers{line(5, 50), line(6, 0), line(6, 0)}, impl.ErrMany}, // though it costs nothing
		{papers{line(5, 50), line(5, 0), line(6, 60)}, impl.ErrShort},
		{papers{line(5, 50), line(9, 0), line(6, 61)}, impl.ErrMany},
		{papers{line(5, 50), line(5, 0), line(5, 51)}, impl.ErrOver},
		{papers{line(5, 50), line(5, 0), line(5, 49)}, impl.OK},
		{papers{line(5, 50), line(5, 0), line(4, 41)}, impl.ErrOver},
		{papers{line(5, 50), line(5, 0), line(1, 10)}, impl.OK},
		{papers{line(5, 50), line(5, 0), line(1, 11)}, impl.ErrOver},
		{papers{line(3, 10), line(3, 0), line(1, 3)}, impl.OK}, // 10 / 3 is above 3
		{papers{line(3, 10), line(3, 0), line(1, 4)}, impl.ErrOver},
		{papers{line(3, 10), line(3, 0), line(2, 6)}, impl.OK},
		{papers{line(3, 10), line(3, 0), line(2, 7)}, impl.ErrOver}, // 3.5 is above 3.33, though both are 3 rounded down
		{papers{line(3, 11), line(3, 0), line(2, 7)}, impl.OK},
		{papers{line(5, 0), line(5, 0), line(5, 0)}, impl.OK},
		{papers{line(5, 0), line(5, 0), line(1, 1)}, impl.ErrOver},
		{papers{line(5, 0), line(5, impl.MaxMoney), line(1, 0)}, impl.OK}, // what the receipt costs is not looked at
		{papers{line(5, 50), line(5, impl.MaxMoney), line(5, 50)}, impl.OK},
		{papers{line(5, 50), line(1, impl.MaxMoney), line(5, 51)}, impl.ErrShort},
		{papers{line(impl.MaxMany, impl.MaxMoney), line(impl.MaxMany, 0), line(impl.MaxMany, impl.MaxMoney)}, impl.OK},
		{papers{line(impl.MaxMany, impl.MaxMoney-1), line(impl.MaxMany, 0), line(impl.MaxMany, impl.MaxMoney)}, impl.ErrOver},
		{papers{line(impl.MaxMany-1, impl.MaxMoney), line(impl.MaxMany, 0), line(impl.MaxMany, 0)}, impl.ErrMany},
		{papers{line(impl.MaxMany, impl.MaxMoney), line(impl.MaxMany-1, 0), line(impl.MaxMany, 0)}, impl.ErrShort},
		{papers{line(impl.MaxMany, impl.MaxMoney), line(1, 0), line(1, 10000)}, impl.OK},
		{papers{line(impl.MaxMany, impl.MaxMoney), line(1, 0), line(1, 10001)}, impl.ErrOver},
		{papers{line(impl.MaxMany, impl.MaxMoney), line(1, 0), line(1, impl.MaxMoney)}, impl.ErrOver},
	} {
		wantVerdicts(t, c.p, verdictsOf(verdict("a", c.code)), impl.OK)
		wantVerdictsByWords(t, c.p)
	}
	wantVerdicts(t, papers{}, nil, impl.OK)
}

// Two amounts for a unit that part by the least that there is: with the units u and v by 1 / (u v).
func TestP19AmountsForAUnitThatNearlyAreTheSame(t *testing.T) {
	const units, fewer = impl.MaxMany, impl.MaxMany - 1
	for _, times := range []int{0, 1, 5000, 9998} {
		ordered := times*units + 1
		invoiced := times*fewer + 1 // invoiced * units is ordered * fewer and 1
		if invoiced*units != ordered*fewer+1 {
			t.Fatal("another difference", invoiced*units-ordered*fewer)
		}
		p := func(amount int) papers {
			return papers{docsOf(docLine("a", units, ordered)), docsOf(docLine("a", units, 0)), docsOf(docLine("a", fewer, amount))}
		}
		wantVerdicts(t, p(invoiced), verdictsOf(verdict("a", impl.ErrOver)), impl.OK)
		wantVerdicts(t, p(invoiced-1), verdictsOf(verdict("a", impl.OK)), impl.OK)
		wantVerdictsByWords(t, p(invoiced))
		ordered = times*units + units - 1
		invoiced = times*fewer + fewer - 1 // invoiced * units is ordered * fewer less 1
		if invoiced*units != ordered*fewer-1 {
			t.Fatal("another difference", invoiced*units-ordered*fewer)
		}
		wantVerdicts(t, p(invoiced), verdictsOf(verdict("a", impl.OK)), impl.OK)
		wantVerdicts(t, p(invoiced+1), verdictsOf(verdict("a", impl.ErrOver)), impl.OK)
		wantVerdictsByWords(t, p(invoiced))
	}
	for _, amount := range []int{0, 1, 7, 9999, 10000} {
		for _, fewer := range []int{1, 2, 3, impl.MaxMany - 1, impl.MaxMany} {
			p := papers{docsOf(docLine("a", impl.MaxMany, impl.MaxMany*amount)), docsOf(docLine("a", fewer, 0)), docsOf(docLine("a", fewer, fewer*amount))}
			wantVerdicts(t, p, verdictsOf(verdict("a", impl.OK)), impl.OK) // the same
			if amount < 10000 {
				p[2][0].Amount++
				wantVerdicts(t, p, verdictsOf(verdict("a", impl.ErrOver)), impl.OK)
			}
		}
	}
}

func TestP19EverySmallLineOfThree(t *testing.T) {
	lists := [][]impl.DocLine{nil}
	for units := 1; units <= 4; units++ {
		for amount := range 7 {
			lists = append(lists, docsOf(docLine("a", units, amount)))
		}
	}
	seen := map[int]int{}
	for _, order := range lists {
		for _, receipt := range lists {
			for _, invoice := range lists {
				for _, v := range wantVerdictsByWords(t, papers{order, receipt, invoice}) {
					seen[v.Code]++
				}
			}
		}
	}
	for _, code := range []int{impl.OK, impl.ErrNone, impl.ErrHeld, impl.ErrShort, impl.ErrMany, impl.ErrOver} {
		if seen[code] < 100 {
			t.Error("too few of one code", code, seen)
		}
	}
}

// Of all that stands against an Article the first one counts; each two codes come together.
func TestP19WhichVerdictComesFirst(t *testing.T) {
	r := fixed()
	seen := map[[2]int]int{}
	for range 20000 {
		p := somePapers(r, 1, 3)
		for _, v := range wantVerdictsByWords(t, p) {
			faults := p.faultsByWords(v.Article)
			for _, fault := range faults[1:] {
				seen[[2]int{faults[0], fault}]++
			}
		}
	}
	for _, two := range [][2]int{{impl.ErrNone, impl.ErrHeld}, {impl.ErrNone, impl.ErrShort}, {impl.ErrHeld, impl.ErrShort}, {impl.ErrShort, impl.ErrMany}, {impl.ErrShort, impl.ErrOver}, {impl.ErrMany, impl.ErrOver}} {
		if seen[two] < 100 {
			t.Error("too few of two codes", two, seen)
		}
	}
}

// somePapers are right; each list has some of the Articles, the most that one of these has in units is small.
func somePapers(r *rand.Rand, articles, mostUnits int) papers {
	var p papers
	for place := range p {
		for _, name := range someNames(articles) {
			if r.IntN(4) > 0 && len(p[place]) < impl.MaxDocs {
				units := 1 + r.IntN(mostUnits)
				p[place] = append(p[place], docLine(name, units, units*4+r.IntN(3)-1))
			}
		}
		r.Shuffle(len(p[place]), func(i, j int) { p[place][i], p[place][j] = p[place][j], p[place][i] })
	}
	return p
}

func TestP19ThreeListsAgainstThePlainReading(t *testing.T) {
	r := fixed()
	seen := map[int]int{}
	for range 3000 {
		for _, v := range wantVerdictsByWords(t, somePapers(r, r.IntN(70), []int{3, 50, impl.MaxMany}[r.IntN(3)])) {
			seen[v.Code]++
		}
	}
	for _, code := range []int{impl.OK, impl.ErrNone, impl.ErrHeld, impl.ErrShort, impl.ErrMany, impl.ErrOver} {
		if seen[code] < 500 {
			t.Error("too few of one code", code, seen)
		}
	}
}

func TestP19TheOrderOfLinesSaysNothing(t *testing.T) {
	r := fixed()
	for range 500 {
		p := somePapers(r, 1+r.IntN(20), 4)
		want, _ := p.match()
		for range 4 {
			for _, list := range p {
				r.Shuffle(len(list), func(i, j int) { list[i], list[j] = list[j], list[i] })
			}
			wantVerdicts(t, p, want, impl.OK)
		}
	}
}

// What papers say of an Article is what they say where they have the lines of that one alone.
func TestP19EachArticleIsHeldAgainstItsOwnLines(t *testing.T) {
	r := fixed()
	for range 500 {
		p := somePapers(r, 1+r.IntN(20), 4)
		all, _ := p.match()
		for _, v := range all {
			var own papers
			for place, list := range p {
				for _, l := range list {
					if l.Article == v.Article {
						own[place] = append(own[place], l)
					}
				}
			}
			wantVerdicts(t, own, verdictsOf(v), impl.OK)
		}
	}
}

func TestP19AllIsRightWhereTheThreeAreOneList(t *testing.T) {
	r := fixed()
	lists := rightDocs()
	for range 300 {
		lists = append(lists, somePapers(r, r.IntN(impl.MaxDocs+1), impl.MaxMany)[0])
	}
	for _, list := range lists {
		told, code := papers{list, list, list}.match()
		if code != impl.OK || len(told) != len(list) {
			t.Fatalf("%.300s: %v, %d", fmt.Sprint(list), told, code)
		}
		for _, v := range told {
			if v.Code != impl.OK {
				t.Errorf("%.300s: %v", fmt.Sprint(list), v)
			}
		}
	}
}

func TestP19ArticlesComeInTheOrderOfTextsEachOnce(t *testing.T) {
	names := []string{"A", "A0", "AA", "Z", "_", "_9", "_a", "a", "a0", "a9", "aA", "a_", "aa", "aaa", "aä", "b", "z", "À", "ä", "ÿ", "Α", "а"}
	if !slices.IsSorted(names) {
		t.Fatal("these are not in the order of texts")
	}
	r := fixed()
	for range 300 {
		var p papers
		for _, name := range names {
			for _, place := range r.Perm(3)[:1+r.IntN(3)] {
				p[place] = append(p[place], docLine(name, 1+r.IntN(2), r.IntN(3)))
			}
		}
		for _, list := range p {
			r.Shuffle(len(list), func(i, j int) { list[i], list[j] = list[j], list[i] })
		}
		told, code := p.match()
		var articles []string
		for _, v := range told {
			articles = append(articles, v.Article)
		}
		if code != impl.OK || !slices.Equal(articles, names) {
			t.Fatalf("%v, %d; want %v", articles, code, names)
		}
		wantVerdictsByWords(t, p)
	}
}

// Three lists of MaxDocs lines have up to three times as many Articles.
func TestThreeListsAtMaxDocs(t *testing.T) {
	for _, shared := range []int{0, 1, 30, impl.MaxDocs} {
		p := papers{manyDocs(0, impl.MaxDocs), manyDocs(impl.MaxDocs-shared, impl.MaxDocs), manyDocs(2*(impl.MaxDocs-shared), impl.MaxDocs)}
		if told := wantVerdictsByWords(t, p); len(told) != 3*impl.MaxDocs-2*shared {
			t.Errorf("%d verdicts, with %d Articles in common", len(told), shared)
		}
	}
}

func TestThreeListsThatAreRight(t *testing.T) {
	for _, order := range rightDocs() {
		for _, receipt := range rightDocs() {
			for _, invoice := range rightDocs() {
				p := papers{order, receipt, invoice}
				if _, code := p.match(); code != impl.OK {
					t.Errorf("ThreeWay(%v): %d", p, code)
				}
				wantVerdictsByWords(t, p)
			}
		}
	}
}

// ErrLong of any list comes ahead of all else; what is wrong in any list is found, whatever the others are.
func TestThreeListsThatAreWrong(t *testing.T) {
	for place := range 3 {
		for _, list := range wrongDocs() {
			wantNoVerdicts(t, papers{}.with(place, list), impl.ErrBad)
			wantNoVerdicts(t, nordPapers().with(place, list), impl.ErrBad)
			for other := range 3 {
				if other != place {
					wantNoVerdicts(t, nordPapers().with(place, list).with(other, list), impl.ErrBad)
				}
			}
		}
		for _, long := range longDocs() {
			wantNoVerdicts(t, papers{}.with(place, long), impl.ErrLong)
			wantNoVerdicts(t, nordPapers().with(place, long), impl.ErrLong)
			for other := range 3 {
				for _, list := range wrongDocs()[:12] {
					if other != place {
						wantNoVerdicts(t, nordPapers().with(other, list).with(place, long), impl.ErrLong)
					}
				}
			}
		}
	}
}

func TestDocLinesAtTheEdges(t *testing.T) {
	for place := range 3 {
		for _, c := range []struct {
			units, amount int
			right         bool
		}{
			{0, 0, false}, {1, 0, true}, {impl.MaxMany, 0, true}, {impl.MaxMany + 1, 0, false}, {-1, 0, false},
			{1, -1, false}, {1, 1, true}, {1, impl.MaxMoney, true}, {1, impl.MaxMoney + 1, false}, {impl.MaxMany, impl.MaxMoney, true},
			{0, -1, false}, {math.MaxInt, math.MaxInt, false}, {math.MinInt, math.MinInt, false},
		} {
			p := nordPapers().with(place, docsOf(docLine("tea", c.units, c.amount)))
			if _, code := p.match(); (code == impl.OK) != c.right {
				t.Errorf("ThreeWay(%v): %d", p, code)
			}
			wantVerdictsByWords(t, p)
		}
	}
}

package tests

import (
	"fmt"
	"math"
	"math/big"
	"slices"
	"testing"

	"loop.example/g00067/impl"
)

// markdown is all that BestMarks is asked, and MarkOf beside its steps.
type markdown struct {
	price, stock int
	percents     []int
	demand       [][]int
}

func daysOf(demand ...[]int) [][]int { return demand }

// sameDays has days of which each asks for the same.
func sameDays(count int, asked ...int) [][]int {
	var demand [][]int
	for range count {
		demand = append(demand, slices.Clone(asked))
	}
	return demand
}

// cakes are right: three percents and four days; what is asked for rises with the percent, stays, falls, and is nought.
func cakes() markdown {
	return markdown{price: 199, stock: 12, percents: []int{0, 30, 75}, demand: daysOf([]int{2, 5, 9}, []int{1, 1, 8}, []int{4, 3, 2}, []int{0, 0, 6})}
}

// fullMarks have the most percents and days there can be.
func fullMarks(stock int) markdown {
	return markdown{price: impl.MaxCost, stock: stock, percents: []int{0, 1, 50, 99, 100}, demand: sameDays(impl.MaxDays, 10, 20, 30, 40, 50)}
}

func (m markdown) mark(steps []int) (impl.MarkPlan, int) {
	return impl.MarkOf(m.price, m.stock, m.percents, m.demand, steps)
}

func (m markdown) best() (impl.MarkPlan, int) {
	return impl.BestMarks(m.price, m.stock, m.percents, m.demand)
}

func (m markdown) String() string {
	return fmt.Sprintf("price %d, stock %d, percents %.100v, demand %.300v", m.price, m.stock, fmt.Sprint(m.percents), fmt.Sprint(m.demand))
}

func (m markdown) copied() markdown {
	m.percents, m.demand = slices.Clone(m.percents), slices.Clone(m.demand)
	for day := range m.demand {
		m.demand[day] = slices.Clone(m.demand[day])
	}
	return m
}

// with changes a copy.
func (m markdown) with(change func(m *markdown)) markdown {
	m = m.copied()
	change(&m)
	return m
}

func sameMarks(a, b impl.MarkPlan) bool {
	return slices.Equal(a.Steps, b.Steps) && slices.Equal(a.Sold, b.Sold) && a.Revenue == b.Revenue && a.Left == b.Left
}

// markPriceByWords reckons with numbers of any size.
func markPriceByWords(price, percent int) (int, int) {
	if price < 0 || price > 1000000 {
		return 0, impl.ErrBad
	}
	if percent < 0 || percent > 100 {
		return 0, impl.ErrRange
	}
	off := new(big.Rat).Mul(new(big.Rat).SetInt64(int64(price)), big.NewRat(int64(percent), 100))
	return price - int(new(big.Int).Div(off.Num(), off.Denom()).Int64()), impl.OK
}

func (m markdown) rightByWords() bool {
	if m.price < 0 || m.price > 1000000 || m.stock < 0 || m.stock > 200 || len(m.percents) < 1 || len(m.percents) > 5 || len(m.demand) < 1 || len(m.demand) > 7 {
		return false
	}
	for place, percent := range m.percents {
		if percent < 0 || percent > 100 || place > 0 && percent <= m.percents[place-1] {
			return false
		}
	}
	for _, day := range m.demand {
		if len(day) != len(m.percents) || slices.Min(day) < 0 || slices.Max(day) > 200 {
			return false
		}
	}
	return true
}

// markByWords sells unit by unit.
func (m markdown) markByWords(steps []int) (impl.MarkPlan, int) {
	if len(m.percents) > impl.MaxList || len(m.demand) > impl.MaxList || len(steps) > impl.MaxList {
		return impl.MarkPlan{}, impl.ErrLong
	}
	if !m.rightByWords() {
		return impl.MarkPlan{}, impl.ErrBad
	}
	if len(steps) != len(m.demand) || !slices.IsSorted(steps) || slices.Min(steps) < 0 || slices.Max(steps) >= len(m.percents) {
		return impl.MarkPlan{}, impl.ErrForm
	}
	plan := impl.MarkPlan{Steps: slices.Clone(steps), Sold: make([]int, len(steps)), Left: m.stock}
	for day, step := range steps {
		each, _ := markPriceByWords(m.price, m.percents[step])
		for range m.demand[day][step] {
			if plan.Left > 0 {
				plan.Left--
				plan.Sold[day]++
				plan.Revenue += each
			}
		}
	}
	return plan, impl.OK
}

func wantMarkPrice(t *testing.T, price, percent, want, wantCode int) {
	t.Helper()
	if got, code := impl.MarkPrice(price, percent); got != want || code != wantCode {
		t.Errorf("MarkPrice(%d, %d) = %d, %d; want %d, %d", price, percent, got, code, want, wantCode)
	}
}

func wantMarks(t *testing.T, what string, m markdown, steps []int, want impl.MarkPlan, wantCode int) {
	t.Helper()
	got, code := m.mark(steps)
	if code != wantCode || !sameMarks(got, want) {
		t.Errorf("%s: MarkOf of %v by %.100v = %v, %d; want %v, %d", what, m, fmt.Sprint(steps), got, code, want, wantCode)
	}
}

func wantNoMarks(t *testing.T, what string, m markdown, steps []int, code int) {
	t.Helper()
	wantMarks(t, what, m, steps, impl.MarkPlan{}, code)
}

func TestMarkdownsBounds(t *testing.T) {
	got := []int{impl.MaxSteps, impl.MaxDays, impl.MaxLeft, impl.MaxCost}
	if !slices.Equal(got, []int{5, 7, 200, 1000000}) {
		t.Error("constants", got)
	}
}

func TestP16MarkPriceByHand(t *testing.T) {
	for _, c := range [][3]int{
		{199, 30, 140}, {100, 30, 70}, {100, 50, 50}, {101, 50, 51}, {99, 50, 50}, // of a half that is taken off nothing is
		{1, 50, 1}, {3, 50, 2}, {5, 50, 3}, {1, 1, 1}, {1, 99, 1}, {1, 100, 0}, {2, 99, 1}, {99, 1, 99}, {100, 1, 99}, {101, 1, 100}, {199, 1, 198}, {200, 1, 198},
		{7, 15, 6}, {10, 15, 9}, {10, 25, 8}, {10, 5, 10}, {20, 5, 19}, {19, 5, 19}, {333, 33, 224}, {999, 10, 900}, {250, 33, 168},
		{0, 0, 0}, {0, 50, 0}, {0, 100, 0}, {1, 0, 1}, {250, 0, 250}, {250, 100, 0}, {impl.MaxCost, 0, 1000000}, {impl.MaxCost, 1, 990000}, {impl.MaxCost, 99, 10000}, {impl.MaxCost, 100, 0},
		{impl.MaxCost - 1, 1, 990000}, {impl.MaxCost - 1, 50, 500000}, {impl.MaxCost - 1, 99, 10000}, {impl.MaxCost - 1, 100, 0},
	} {
		wantMarkPrice(t, c[0], c[1], c[2], impl.OK)
		if words, code := markPriceByWords(c[0], c[1]); words != c[2] || code != impl.OK {
			t.Errorf("%v: by the words %d, %d", c, words, code)
		}
	}
}

func TestMarkPriceWhatIsWrong(t *testing.T) {
	for _, price := range []int{math.MinInt, -impl.MaxCost, -1, impl.MaxCost + 1, impl.MaxMoney, math.MaxInt} {
		for _, percent := range []int{math.MinInt, -1, 0, 50, 100, 101, math.MaxInt} { // a price ahead of a percent
			wantMarkPrice(t, price, percent, 0, impl.ErrBad)
		}
	}
	for _, price := range []int{0, 1, 199, impl.MaxCost} {
		for _, percent := range []int{math.MinInt, -100, -1, 101, 200, impl.MaxCost, math.MaxInt} {
			wantMarkPrice(t, price, percent, 0, impl.ErrRange)
		}
	}
}

func TestP16EveryPercentOfAPrice(t *testing.T) {
	prices := append(placesTo(450), impl.MaxCost-1, impl.MaxCost, impl.MaxCost+1, -1)
	r := fixed()
	for range 300 {
		prices = append(prices, r.IntN(impl.MaxCost+1))
	}
	for _, price := range prices {
		ahead := price
		for percent := -1; percent <= 101; percent++ {
			want, code := markPriceByWords(price, percent)
			wantMarkPrice(t, price, percent, want, code)
			if code == impl.OK && (want > ahead || want < 0) {
				t.Errorf("MarkPrice(%d, %d) = %d: dearer than for one percent less, or below nothing", price, percent, want)
			}
			if code == impl.OK {
				ahead = want
			}
		}
	}
}

// rightMarks are right at each edge.
func rightMarks() []markdown {
	list := []markdown{cakes(), fullMarks(0), fullMarks(1), fullMarks(100), fullMarks(impl.MaxLeft), {price: 1, stock: 1, percents: []int{0}, demand: daysOf([]int{1})}, {percents: []int{100}, demand: daysOf([]int{0})}}
	for _, n := range []int{0, 1, impl.MaxCost - 1, impl.MaxCost} {
		list = append(list, cakes().with(func(m *markdown) { m.price = n }))
	}
	for _, n := range []int{0, 1, 2, 3, impl.MaxLeft - 1, impl.MaxLeft} {
		list = append(list, cakes().with(func(m *markdown) { m.stock = n }))
		for day := range 4 {
			for place := range 3 {
				list = append(list, cakes().with(func(m *markdown) { m.demand[day][place] = n }))
			}
		}
	}
	for _, percents := range [][]int{{0, 1, 2}, {98, 99, 100}, {0, 99, 100}, {0, 1, 100}, {0, 50, 51}, {49, 50, 100}} {
		list = append(list, cakes().with(func(m *markdown) { m.percents = percents }))
	}
	for count := 1; count <= impl.MaxSteps; count++ {
		for days := 1; days <= impl.MaxDays; days++ {
			list = append(list, markdown{price: 100, stock: 9, percents: placesTo(count), demand: sameDays(days, alike(2, count)...)})
		}
	}
	return list
}

// wrongMarks have one fault each.
func wrongMarks() []markdown {
	var list []markdown
	change := func(one func(m *markdown)) { list = append(list, cakes().with(one), fullMarks(100).with(one)) }
	for _, n := range []int{math.MinInt, -1, impl.MaxCost + 1, math.MaxInt} {
		change(func(m *markdown) { m.price = n })
	}
	for _, n := range []int{math.MinInt, -1, impl.MaxLeft + 1, math.MaxInt} {
		change(func(m *markdown) { m.stock = n })
		for _, place := range []int{0, 1, 2} {
			for day := range 4 {
				change(func(m *markdown) { m.demand[day][place] = n })
			}
		}
	}
	for _, percents := range [][]int{{-1, 30, 75}, {0, 30, 101}, {0, 30, 30}, {0, 0, 30}, {30, 0, 75}, {0, 75, 30}, {75, 30, 0}, {30, 30, 30}, {101, 102, 103}, {-3, -2, -1}, {math.MinInt, 0, 1}, {0, 1, math.MaxInt}, {0, math.MaxInt, 2}, {math.MinInt, math.MinInt, math.MaxInt}} {
		list = append(list, cakes().with(func(m *markdown) { m.percents = percents }))
	}
	for place := range impl.MaxSteps {
		for _, n := range []int{math.MinInt, -1, 101, math.MaxInt} {
			list = append(list, fullMarks(100).with(func(m *markdown) { m.percents[place] = n }))
		}
		for other := range place {
			list = append(list, fullMarks(100).with(func(m *markdown) { m.percents[place] = m.percents[other] }))
		}
	}
	for _, count := range []int{0, 2, 4, impl.MaxList} { // another number of percents than each day tells
		list = append(list, cakes().with(func(m *markdown) { m.percents = placesTo(count) }))
	}
	for _, count := range []int{0, impl.MaxSteps + 1, impl.MaxList} { // as many as each day tells
		list = append(list, markdown{price: 100, stock: 9, percents: placesTo(count), demand: sameDays(2, alike(1, count)...)})
	}
	for _, count := range []int{0, impl.MaxDays + 1, impl.MaxList} {
		list = append(list, markdown{price: 100, stock: 9, percents: []int{0, 30}, demand: sameDays(count, 1, 2)})
	}
	for day := range 4 {
		for _, count := range []int{0, 2, 4, impl.MaxList + 1} {
			list = append(list, cakes().with(func(m *markdown) { m.demand[day] = alike(1, count) }))
		}
		list = append(list, cakes().with(func(m *markdown) { m.demand[day] = nil }))
	}
	return list
}

// longMarks have a list beyond the limit.
func longMarks() []markdown {
	return []markdown{
		cakes().with(func(m *markdown) { m.percents = placesTo(impl.MaxList + 1) }),
		cakes().with(func(m *markdown) { m.percents = alike(-1, impl.MaxList+1) }),
		cakes().with(func(m *markdown) { m.demand = sameDays(impl.MaxList+1, 1, 2, 3) }),
		cakes().with(func(m *markdown) { m.demand = make([][]int, impl.MaxList+1) }),
		{price: -1, stock: -1, demand: make([][]int, impl.MaxList+1)},
		{price: math.MaxInt, stock: math.MinInt, percents: alike(7, 2*impl.MaxList)},
	}
}

func TestMarksThatAreRight(t *testing.T) {
	for _, m := range rightMarks() {
		if !m.rightByWords() {
			t.Fatal("these should be right", m)
		}
		for _, step := range []int{0, len(m.percents) - 1} {
			steps := alike(step, len(m.demand))
			want, code := m.markByWords(steps)
			if code != impl.OK {
				t.Fatal("these steps should fit", m, steps, code)
			}
			wantMarks(t, "right", m, steps, want, code)
		}
		wantBestBySearch(t, "right", m)
	}
}

func TestMarksThatAreWrong(t *testing.T) {
	for _, m := range wrongMarks() {
		if m.rightByWords() {
			t.Fatal("these should be wrong", m)
		}
		for _, steps := range [][]int{alike(0, min(len(m.demand), impl.MaxList)), {0, 1, 1, 2}, nil, {-1}, {2, 1, 0, 9}, alike(0, impl.MaxList)} {
			wantNoMarks(t, "wrong", m, steps, impl.ErrBad)
		}
		wantNoMarks(t, "wrong, and very many steps", m, alike(0, impl.MaxList+1), impl.ErrLong)
		wantNoBest(t, "wrong", m, impl.ErrBad)
	}
}

func TestMarksThatAreTooLong(t *testing.T) {
	for _, m := range longMarks() {
		for _, steps := range [][]int{nil, {0, 1, 1, 2}, {-1}, alike(0, impl.MaxList), alike(0, impl.MaxList+1)} {
			wantNoMarks(t, "too long", m, steps, impl.ErrLong)
		}
		wantNoBest(t, "too long", m, impl.ErrLong)
	}
	wantNoMarks(t, "very many steps", cakes(), alike(0, impl.MaxList+1), impl.ErrLong)
	wantNoMarks(t, "very many steps that go back", cakes(), alike(math.MinInt, 2*impl.MaxList), impl.ErrLong)
	wantNoMarks(t, "steps at the limit", cakes(), alike(0, impl.MaxList), impl.ErrForm)
}

func TestStepsThatDoNotFit(t *testing.T) {
	for _, steps := range [][]int{
		nil, {}, {0}, {0, 0, 0}, {0, 1, 2}, {0, 0, 0, 0, 0}, {0, 1, 1, 2, 2}, // one too few, one too many
		{1, 0, 1, 2}, {0, 1, 0, 2}, {0, 0, 1, 0}, {2, 1, 2, 2}, {1, 2, 1, 2}, {1, 1, 2, 1}, {2, 2, 2, 1}, // back by one
		{2, 0, 2, 2}, {0, 2, 0, 2}, {0, 0, 2, 0}, {2, 2, 1, 1}, {2, 1, 0, 0}, // back by more, and again and again
		{-1, 0, 0, 0}, {0, -1, 0, 0}, {0, 0, -1, 0}, {0, 0, 0, -1}, {-1, -1, -1, -1}, {-2, -1, 0, 1}, // below 0
		{3, 3, 3, 3}, {0, 3, 3, 3}, {0, 0, 3, 3}, {0, 0, 0, 3}, {0, 1, 2, 3}, {3, 0, 0, 0}, {0, 3, 0, 0}, {0, 1, 2, 75}, // no percent's place
		{math.MinInt, 0, 0, 0}, {0, 0, 0, math.MinInt}, {0, 0, 0, math.MaxInt}, {math.MaxInt, 0, 0, 0}, {math.MinInt, math.MinInt, math.MaxInt, math.MaxInt}, {math.MaxInt, math.MaxInt, math.MaxInt, math.MaxInt}, alike(0, impl.MaxList), alike(1, 5),
	} {
		wantNoMarks(t, "steps that do not fit", cakes(), steps, impl.ErrForm)
		wantNoMarks(t, "steps that do not fit, and nothing to sell", cakes().with(func(m *markdown) { m.price, m.stock = 0, 0 }), steps, impl.ErrForm)
	}
	for day := range impl.MaxDays {
		for _, step := range []int{math.MinInt, -1, 1, 3, 4, 5, math.MaxInt} {
			steps := alike(2, impl.MaxDays)
			steps[day] = step
			if step == 1 && day == 0 || (step == 3 || step == 4) && day == impl.MaxDays-1 {
				continue // these go on
			}
			wantNoMarks(t, "one step that does not fit", fullMarks(100), steps, impl.ErrForm)
		}
	}
}

func TestP16MarksByHand(t *testing.T) {
	for _, c := range []struct {
		what          string
		stock         int
		steps, sold   []int
		revenue, left int
	}{
		{"the whole price on each day", 12, []int{0, 0, 0, 0}, []int{2, 1, 4, 0}, 7 * 199, 5},
		{"the last percent on each day", 12, []int{2, 2, 2, 2}, []int{9, 3, 0, 0}, 12 * 50, 0},
		{"one more each day", 12, []int{0, 1, 2, 2}, []int{2, 1, 2, 6}, 2*199 + 140 + 8*50, 1},
		{"steps that stay, and go by two", 12, []int{0, 0, 0, 2}, []int{2, 1, 4, 5}, 7*199 + 5*50, 0},
		{"the second percent on each day", 12, []int{1, 1, 1, 1}, []int{5, 1, 3, 0}, 9 * 140, 3},
		{"just what is left", 13, []int{0, 0, 0, 2}, []int{2, 1, 4, 6}, 7*199 + 6*50, 0},
		{"one more than what is asked for", 14, []int{0, 0, 0, 2}, []int{2, 1, 4, 6}, 7*199 + 6*50, 1},
		{"more is asked for than there is on the first day", 8, []int{2, 2, 2, 2}, []int{8, 0, 0, 0}, 8 * 50, 0},
		{"just as much as there is on the first day", 9, []int{2, 2, 2, 2}, []int{9, 0, 0, 0}, 9 * 50, 0},
		{"nothing left behind the second day", 3, []int{0, 0, 1, 2}, []int{2, 1, 0, 0}, 3 * 199, 0},
		{"one unit", 1, []int{0, 0, 0, 0}, []int{1, 0, 0, 0}, 199, 0},
		{"no unit at all", 0, []int{0, 1, 1, 2}, []int{0, 0, 0, 0}, 0, 0},
		{"the most there can be", impl.MaxLeft, []int{0, 1, 1, 2}, []int{2, 1, 3, 6}, 2*199 + 4*140 + 6*50, 188},
	} {
		m := cakes().with(func(m *markdown) { m.stock = c.stock })
		want := impl.MarkPlan{Steps: c.steps, Sold: c.sold, Revenue: c.revenue, Left: c.left}
		wantMarks(t, c.what, m, c.steps, want, impl.OK)
		if words, code := m.markByWords(c.steps); code != impl.OK || !sameMarks(words, want) {
			t.Errorf("%s: by the words %v, %d", c.what, words, code)
		}
	}
}

func TestP16MarksAtTheEdges(t *testing.T) {
	one := markdown{price: 1, stock: impl.MaxLeft, percents: []int{50}, demand: daysOf([]int{impl.MaxLeft})}
	wantMarks(t, "half a cent less is nothing less", one, []int{0}, impl.MarkPlan{Steps: []int{0}, Sold: []int{200}, Revenue: 200}, impl.OK)
	one.price = 3
	wantMarks(t, "each unit is rounded, not what they bring", one, []int{0}, impl.MarkPlan{Steps: []int{0}, Sold: []int{200}, Revenue: 400}, impl.OK)
	one.price = 0
	wantMarks(t, "nothing is paid", one, []int{0}, impl.MarkPlan{Steps: []int{0}, Sold: []int{200}}, impl.OK)
	one.price, one.percents = impl.MaxCost, []int{0}
	wantMarks(t, "the most there can be brought", one, []int{0}, impl.MarkPlan{Steps: []int{0}, Sold: []int{200}, Revenue: 200000000}, impl.OK)
	one.percents = []int{100}
	wantMarks(t, "all is taken off", one, []int{0}, impl.MarkPlan{Steps: []int{0}, Sold: []int{200}}, impl.OK)
	most := fullMarks(impl.MaxLeft).with(func(m *markdown) { m.demand = sameDays(impl.MaxDays, alike(impl.MaxLeft, impl.MaxSteps)...) })
	steps := []int{1, 1, 2, 3, 3, 4, 4}
	wantMarks(t, "all is asked for on each day", most, steps, impl.MarkPlan{Steps: steps, Sold: []int{200, 0, 0, 0, 0, 0, 0}, Revenue: 198000000}, impl.OK)
	wantMarks(t, "a percent each day", fullMarks(impl.MaxLeft), steps, impl.MarkPlan{Steps: steps, Sold: []int{20, 20, 30, 40, 40, 50, 0}, Revenue: 40*990000 + 30*500000 + 80*10000}, impl.OK)
	wantMarks(t, "and one more", fullMarks(impl.MaxLeft), []int{0, 0, 0, 0, 0, 0, 4}, impl.MarkPlan{Steps: []int{0, 0, 0, 0, 0, 0, 4}, Sold: []int{10, 10, 10, 10, 10, 10, 50}, Revenue: 60 * 1000000, Left: 90}, impl.OK)
}

// Each fault here stands together with all that are named behind it.
func TestMarksWhichFaultComesFirst(t *testing.T) {
	wrong := []markdown{
		cakes().with(func(m *markdown) { m.price = -1 }), cakes().with(func(m *markdown) { m.stock = impl.MaxLeft + 1 }), cakes().with(func(m *markdown) { m.percents[1] = 0 }), cakes().with(func(m *markdown) { m.demand[3] = m.demand[3][:2] }), {},
	}
	for _, m := range wrong {
		wantNoMarks(t, "too long ahead of what is wrong", m, alike(-1, impl.MaxList+1), impl.ErrLong)
		wantNoMarks(t, "what is wrong ahead of steps", m, []int{1, 0, 9}, impl.ErrBad)
		wantNoMarks(t, "what is wrong ahead of steps at the limit", m, alike(-1, impl.MaxList), impl.ErrBad)
		m.percents = alike(0, impl.MaxList+1)
		wantNoMarks(t, "too long ahead of what is wrong and of steps", m, []int{1, 0, 9}, impl.ErrLong)
		wantNoBest(t, "too long ahead of what is wrong", m, impl.ErrLong)
	}
	wantNoMarks(t, "steps", cakes(), []int{1, 0, 9}, impl.ErrForm)
	want, _ := cakes().markByWords([]int{0, 0, 1, 2})
	wantMarks(t, "no fault at all", cakes(), []int{0, 0, 1, 2}, want, impl.OK)
}

func TestP16EveryStepOfAFewDays(t *testing.T) {
	seen := map[int]int{}
	for _, stock := range []int{0, 1, 3, 7, 12, 200} {
		m := cakes().with(func(m *markdown) { m.stock, m.demand = stock, m.demand[:3] })
		for days := range 5 {
			eachCounts(days, -1, 3, func(steps []int) {
				want, code := m.markByWords(steps)
				wantMarks(t, "every step", m, steps, want, code)
				seen[code]++
			})
		}
	}
	if seen[impl.OK] != 6*10 || seen[impl.ErrForm] < 1000 {
		t.Error("too few of one kind", seen)
	}
}

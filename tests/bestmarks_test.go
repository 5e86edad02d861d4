package tests

import (
	"math/rand/v2"
	"slices"
	"testing"

	"loop.example/g00067/impl"
)

// eachSteps goes through all steps that do not go back, the least list first.
func eachSteps(days, percents int, do func(steps []int)) {
	var further func(steps []int, least int)
	further = func(steps []int, least int) {
		if len(steps) == days {
			do(slices.Clone(steps))
			return
		}
		for step := least; step < percents; step++ {
			further(append(slices.Clone(steps), step), step)
		}
	}
	further(nil, 0)
}

// bestBySearch goes through all steps; the markdown is right.
func (m markdown) bestBySearch() impl.MarkPlan {
	var best impl.MarkPlan
	eachSteps(len(m.demand), len(m.percents), func(steps []int) {
		plan, _ := m.markByWords(steps)
		if best.Steps == nil || plan.Revenue > best.Revenue || plan.Revenue == best.Revenue && slices.Compare(plan.Steps, best.Steps) < 0 {
			best = plan
		}
	})
	return best
}

// wantBestPlan asks MarkOf, too, which must tell the same of these steps.
func wantBestPlan(t *testing.T, what string, m markdown, want impl.MarkPlan) {
	t.Helper()
	got, code := m.best()
	if code != impl.OK || !sameMarks(got, want) {
		t.Errorf("%s: BestMarks of %v = %v, %d; want %v", what, m, got, code, want)
	}
	wantMarks(t, what, m, got.Steps, got, impl.OK)
}

func wantBestBySearch(t *testing.T, what string, m markdown) {
	t.Helper()
	wantBestPlan(t, what, m, m.bestBySearch())
}

func wantBestMarks(t *testing.T, what string, m markdown, steps ...int) {
	t.Helper()
	want, code := m.markByWords(steps)
	if code != impl.OK {
		t.Fatalf("%s: %v are no steps of %v", what, steps, m)
	}
	wantBestPlan(t, what, m, want)
	if search := m.bestBySearch(); !sameMarks(search, want) {
		t.Errorf("%s: all steps tell %v", what, search)
	}
}

func wantNoBest(t *testing.T, what string, m markdown, want int) {
	t.Helper()
	if got, code := m.best(); code != want || !sameMarks(got, impl.MarkPlan{}) {
		t.Errorf("%s: BestMarks of %v = %v, %d; want %d", what, m, got, code, want)
	}
}

func half(price, stock int, demand ...[]int) markdown {
	return markdown{price: price, stock: stock, percents: []int{0, 50}, demand: demand}
}

func TestEachStepsAreAllThatDoNotGoBack(t *testing.T) {
	for days := 1; days <= 4; days++ {
		for percents := 1; percents <= 4; percents++ {
			var some, all [][]int
			eachSteps(days, percents, func(steps []int) { some = append(some, steps) })
			eachCounts(days, 0, percents-1, func(steps []int) {
				if slices.IsSorted(steps) {
					all = append(all, steps)
				}
			})
			if !slices.EqualFunc(some, all, slices.Equal) {
				t.Error("other steps", days, percents, some, all)
			}
		}
	}
}

func TestP16BestMarksByHand(t *testing.T) {
	for _, c := range []struct {
		what  string
		m     markdown
		steps []int
	}{
		{"the last day brings more at half the price", half(100, 8, []int{2, 5}, []int{1, 6}), []int{0, 1}},
		{"so few that all are sold at the whole price", half(100, 3, []int{2, 5}, []int{1, 6}), []int{0, 0}},
		{"one more than is sold at the whole price", half(100, 4, []int{2, 5}, []int{1, 6}), []int{0, 0}},
		{"two more", half(100, 5, []int{2, 5}, []int{1, 6}), []int{0, 1}},
		{"more than can be sold", half(100, 200, []int{2, 5}, []int{1, 6}), []int{1, 1}},
		{"the first day would be best alone, but the second then can not go back", half(100, 200, []int{2, 5}, []int{9, 9}), []int{0, 0}},
		{"the first day brings so much that the second is held down", half(100, 200, []int{2, 50}, []int{9, 9}), []int{1, 1}},
		{"each day would go back", half(100, 200, []int{1, 9}, []int{9, 1}, []int{1, 9}, []int{9, 1}), []int{0, 0, 0, 0}},
		{"the fall is worth waiting for", half(100, 10, []int{0, 10}, []int{10, 10}), []int{0, 0}},
		{"the fall is not worth waiting for", half(100, 10, []int{0, 10}, []int{4, 9}), []int{1, 1}},
		{"what is sold early is not there late", half(100, 6, []int{3, 6}, []int{0, 6}), []int{0, 1}},
		{"and what is left is worth nothing", half(100, 9, []int{3, 9}, []int{0, 2}), []int{1, 1}},
		{"by two at once", markdown{price: 100, stock: 20, percents: []int{0, 10, 60}, demand: daysOf([]int{5, 5, 5}, []int{1, 1, 15})}, []int{0, 2}},
		{"by one each day", markdown{price: 100, stock: 60, percents: []int{0, 10, 60}, demand: daysOf([]int{9, 9, 9}, []int{1, 9, 9}, []int{1, 1, 30})}, []int{0, 1, 2}},
		{"late and then at once", markdown{price: 100, stock: 100, percents: []int{0, 25, 50, 75, 90}, demand: daysOf([]int{9, 9, 9, 9, 9}, []int{9, 9, 9, 9, 9}, []int{9, 9, 9, 9, 9}, []int{0, 0, 0, 0, 90})}, []int{0, 0, 0, 4}},
		{"the last percent on each day", markdown{price: 100, stock: 200, percents: []int{0, 25, 50, 75, 90}, demand: sameDays(3, 0, 0, 0, 0, 60)}, []int{4, 4, 4}},
		{"a demand that falls with the price", markdown{price: 100, stock: 200, percents: []int{0, 25, 50}, demand: sameDays(4, 9, 8, 7)}, []int{0, 0, 0, 0}},
		{"a step that is never best alone", markdown{price: 100, stock: 30, percents: []int{0, 20, 50}, demand: daysOf([]int{8, 12, 20}, []int{8, 12, 20})}, []int{1, 1}},
		{"cakes", cakes(), []int{0, 0, 0, 2}},
		{"all cakes there can be", cakes().with(func(m *markdown) { m.stock = impl.MaxLeft }), []int{0, 0, 0, 2}},
	} {
		wantBestMarks(t, c.what, c.m, c.steps...)
	}
}

func TestP16OfSeveralStepsTheLeastList(t *testing.T) {
	for _, c := range []struct {
		what  string
		m     markdown
		steps []int
	}{
		{"twice as many at half the price", half(100, 200, []int{4, 8}), []int{0}},
		{"twice as many on each day", half(100, 200, []int{4, 8}, []int{3, 6}, []int{2, 4}), []int{0, 0, 0}},
		{"nothing is paid", markdown{price: 0, stock: 9, percents: []int{0, 30, 60}, demand: sameDays(4, 1, 2, 9)}, []int{0, 0, 0, 0}},
		{"nothing is there", cakes().with(func(m *markdown) { m.stock = 0 }), []int{0, 0, 0, 0}},
		{"nothing is asked for", markdown{price: 100, stock: 9, percents: []int{0, 30, 60}, demand: sameDays(7, 0, 0, 0)}, alike(0, 7)},
		{"a cent that half a percent is not taken off of", markdown{price: 1, stock: 9, percents: []int{0, 50, 99}, demand: sameDays(2, 3, 3, 3)}, []int{0, 0}},
		{"nothing left behind the first day", half(100, 2, []int{2, 5}, []int{1, 6}, []int{9, 9}), []int{0, 0, 0}},
		{"a day on which nothing is asked for goes with the least", half(100, 9, []int{0, 0}, []int{1, 9}), []int{0, 1}},
		{"and stays when it comes behind", half(100, 9, []int{1, 9}, []int{0, 0}), []int{1, 1}},
		{"a later fall of two that bring the same", half(100, 6, []int{2, 4}, []int{2, 4}), []int{0, 0}},
		{"the list is the least, not the one that has the least last step", markdown{price: 100, stock: 200, percents: []int{0, 50, 75}, demand: daysOf([]int{2, 4, 4}, []int{0, 2, 8})}, []int{0, 2}},
		{"nor the one that leaves the most", half(100, 10, []int{2, 4}, []int{2, 8}), []int{0, 1}},
		{"all for nothing", markdown{price: 100, stock: 9, percents: []int{100}, demand: sameDays(2, 5)}, []int{0, 0}},
		{"for nothing only where nothing else is", markdown{price: 100, stock: 9, percents: []int{99, 100}, demand: sameDays(2, 0, 5)}, []int{0, 0}},
	} {
		wantBestMarks(t, c.what, c.m, c.steps...)
	}
}

func TestP16BestMarksAtTheEdges(t *testing.T) {
	for _, stock := range []int{0, 1, 199, impl.MaxLeft} {
		full := fullMarks(stock)
		wantBestBySearch(t, "all there can be", full)
		wantBestBySearch(t, "all is asked for on each day", full.with(func(m *markdown) { m.demand = sameDays(impl.MaxDays, alike(impl.MaxLeft, impl.MaxSteps)...) }))
		wantBestBySearch(t, "all is asked for on the last day", full.with(func(m *markdown) {
			m.demand = append(sameDays(impl.MaxDays-1, alike(0, impl.MaxSteps)...), alike(impl.MaxLeft, impl.MaxSteps))
		}))
		wantBestPlan(t, "one day and one percent", markdown{price: impl.MaxCost, stock: stock, percents: []int{0}, demand: daysOf([]int{impl.MaxLeft})}, impl.MarkPlan{Steps: []int{0}, Sold: []int{stock}, Revenue: stock * 1000000})
		wantBestPlan(t, "one day and all for nothing", markdown{price: impl.MaxCost, stock: stock, percents: []int{100}, demand: daysOf([]int{impl.MaxLeft})}, impl.MarkPlan{Steps: []int{0}, Sold: []int{stock}})
		wantBestPlan(t, "one day without demand", markdown{price: impl.MaxCost, stock: stock, percents: []int{7}, demand: daysOf([]int{0})}, impl.MarkPlan{Steps: []int{0}, Sold: []int{0}, Left: stock})
	}
	falling := fullMarks(impl.MaxLeft).with(func(m *markdown) {
		m.percents = []int{0, 1, 50, 98, 99}
		for day := range m.demand {
			m.demand[day] = alike(0, impl.MaxSteps)
			m.demand[day][min(day, impl.MaxSteps-1)] = 20
		}
	})
	wantBestMarks(t, "each day another step", falling, 0, 1, 2, 3, 4, 4, 4)
}

// someMarks are drawn from few numbers, so that many steps bring the same; of some what is asked for rises with the percent.
func someMarks(r *rand.Rand, days, steps, most int) markdown {
	m := markdown{price: []int{r.IntN(5), 100, 12 * r.IntN(20), r.IntN(impl.MaxCost + 1)}[r.IntN(4)], stock: r.IntN(most*days + 1)}
	m.stock = min(m.stock, impl.MaxLeft)
	if r.IntN(2) == 0 {
		m.percents = []int{0, 25, 50, 75, 100}[:steps]
	} else {
		m.percents = r.Perm(101)[:steps]
		slices.Sort(m.percents)
	}
	rising := r.IntN(2) == 0
	for range days {
		var day []int
		for range steps {
			day = append(day, r.IntN(most+1))
		}
		if rising {
			slices.Sort(day)
		}
		m.demand = append(m.demand, day)
	}
	return m
}

func TestP16NoLadderOfPricesBringsMore(t *testing.T) {
	r := fixed()
	falls, several := 0, 0
	for range 3000 {
		m := someMarks(r, 1+r.IntN(5), 1+r.IntN(impl.MaxSteps), []int{1, 3, 12, 60}[r.IntN(4)])
		wantBestBySearch(t, "all steps", m)
		best, _ := m.best()
		if best.Steps[0] != best.Steps[len(best.Steps)-1] {
			falls++
		}
		eachSteps(len(m.demand), len(m.percents), func(steps []int) {
			plan, code := m.mark(steps)
			if code != impl.OK || plan.Revenue > best.Revenue {
				t.Fatalf("MarkOf of %v by %v = %v, %d; BestMarks brings %d", m, steps, plan, code, best.Revenue)
			}
			if plan.Revenue == best.Revenue && slices.Compare(steps, best.Steps) > 0 {
				several++
			}
		})
	}
	if falls < 500 || several < 3000 {
		t.Error("too few draws of one kind", falls, several)
	}
	for range 150 {
		wantBestBySearch(t, "the most days and percents", someMarks(r, impl.MaxDays, impl.MaxSteps, []int{2, 20, impl.MaxLeft}[r.IntN(3)]))
	}
}

func TestP16EveryLadderOfTwoDays(t *testing.T) {
	for _, price := range []int{0, 1, 2, 3, 100} {
		for stock := range 7 {
			eachCounts(4, 0, 3, func(asked []int) {
				wantBestBySearch(t, "two days", half(price, stock, asked[:2:2], asked[2:]))
			})
		}
	}
}

func TestP16EveryLadderOfThreeDays(t *testing.T) {
	for stock := 1; stock < 6; stock += 2 {
		eachCounts(9, 0, 1, func(asked []int) {
			demand := daysOf([]int{asked[0], 2 * asked[1], 3 * asked[2]}, []int{asked[3], 2 * asked[4], 3 * asked[5]}, []int{asked[6], 2 * asked[7], 3 * asked[8]})
			wantBestBySearch(t, "three days", markdown{price: 60, stock: stock, percents: []int{0, 40, 50}, demand: demand})
		})
	}
}

func TestP16MoreStockNeverBringsLess(t *testing.T) {
	r := fixed()
	for range 60 {
		m := someMarks(r, 1+r.IntN(impl.MaxDays), 1+r.IntN(impl.MaxSteps), 40)
		ahead := 0
		for stock := range impl.MaxLeft + 1 {
			m.stock = stock
			plan, code := m.best()
			sold := 0
			for _, units := range plan.Sold {
				sold += units
			}
			if code != impl.OK || plan.Revenue < ahead || plan.Revenue > ahead+m.price || sold+plan.Left != stock {
				t.Fatalf("BestMarks of %v = %v, %d; with one unit less it brings %d", m, plan, code, ahead)
			}
			ahead = plan.Revenue
		}
	}
}

func TestP16MoreToChooseFromNeverBringsLess(t *testing.T) {
	r := fixed()
	for range 300 {
		m := someMarks(r, impl.MaxDays, impl.MaxSteps, 30)
		revenue := func(days, steps int) int {
			plan, _ := m.with(func(m *markdown) {
				m.percents, m.demand = m.percents[:steps], m.demand[:days]
				for day := range m.demand {
					m.demand[day] = m.demand[day][:steps]
				}
			}).best()
			return plan.Revenue
		}
		for count := 2; count <= impl.MaxSteps; count++ {
			if less, more := revenue(7, count-1), revenue(7, count); more < less {
				t.Errorf("BestMarks of %v: %d with %d percents, %d with one more", m, less, count-1, more)
			}
		}
		for days := 2; days <= impl.MaxDays; days++ {
			if less, more := revenue(days-1, 5), revenue(days, 5); more < less {
				t.Errorf("BestMarks of %v: %d on %d days, %d on one more", m, less, days-1, more)
			}
		}
	}
}

func TestP16ADayWithoutDemandChangesNothing(t *testing.T) {
	r := fixed()
	for range 200 {
		m := someMarks(r, 1+r.IntN(impl.MaxDays-1), 1+r.IntN(impl.MaxSteps), 30)
		want, _ := m.best()
		place := r.IntN(len(m.demand) + 1)
		idle := m.with(func(m *markdown) { m.demand = slices.Insert(m.demand, place, alike(0, len(m.percents))) })
		step := 0 // the least list stays where it was for one day more
		if place > 0 {
			step = want.Steps[place-1]
		}
		want.Steps, want.Sold = slices.Insert(want.Steps, place, step), slices.Insert(want.Sold, place, 0)
		wantBestPlan(t, "a day without demand", idle, want)
	}
}

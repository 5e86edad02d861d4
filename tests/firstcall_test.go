package tests

import (
	"fmt"
	"os"
	"os/exec"
	"slices"
	"strings"
	"sync"
	"testing"

	"loop.example/g00067/impl"
)

// firstCallKey names, in the environment of a process, the call that it has to make.
const firstCallKey = "FIRST_CALL"

// firstCall is a call that hangs on what is filled at start-up or once, and what it must answer. The latter is asked for by those alone that may call others, too.
type firstCall struct {
	name string
	call func() string
	want func() string
}

func firstCalls() []firstCall {
	journal := chainByWords(dayEvents())
	text := textByWords(journal)
	is := func(answer ...any) func() string { return func() string { return fmt.Sprint(answer...) } }
	return []firstCall{
		{"Chain", func() string { return fmt.Sprint(impl.Chain(dayEvents())) }, is(journal, impl.OK)},
		{"Chain at once", atOnce(func() string { return fmt.Sprint(impl.Chain(dayEvents())) }), is(journal, impl.OK)},
		{"CheckJournal", func() string { return fmt.Sprint(impl.CheckJournal(journal)) }, is(impl.OK, 0)},
		{"JournalText", func() string { return fmt.Sprint(impl.JournalText(journal)) }, is(text, impl.OK)},
		{"ReadJournal", func() string { return fmt.Sprint(impl.ReadJournal(text)) }, is(journal, impl.OK, 0)},
		{"Counted", func() string { return fmt.Sprint(impl.Counted(journal[:3], 551)) }, is(1, impl.OK)},
		{"PayRun", payRunSaid(mixedPayActs()), wordsSaid(mixedPayActs())},
		{"PayRun at once", atOnce(payRunSaid(mixedPayActs())), wordsSaid(mixedPayActs())},
		{"PayRun of a capture", payRunSaid(payActs(captured("a", 1))), is([]int{impl.ErrNone}, []impl.Payment{}, impl.OK)},
		{"PayRun of one that is open", payRunSaid(payActs(authorised("a", 5), refunded("a", 1))), is([]int{impl.OK, impl.ErrShort}, []impl.Payment{open("a", 5, 0, 0)}, impl.OK)},
		{"PayRun of one that is closed", payRunSaid(payActs(authorised("a", 5), captured("a", 5), reversed("a"))), is([]int{impl.OK, impl.OK, impl.ErrState}, []impl.Payment{closed("a", 5, 5, 0)}, impl.OK)},
		{"MergeEvents", func() string { return fmt.Sprint(impl.MergeEvents(mixedLog()[:7], mixedLog()[3:])) }, is(mixedLog(), impl.OK)},
		{"StockRun", stockRunSaid(mixedStockActs()), stockWordsSaid(mixedStockActs())},
		{"StockRun at once", atOnce(stockRunSaid(mixedStockActs())), stockWordsSaid(mixedStockActs())},
		{"MarkPrice", func() string { return fmt.Sprint(impl.MarkPrice(199, 30)) }, is(140, impl.OK)},
		{"MarkOf", func() string { return fmt.Sprint(cakes().mark([]int{0, 1, 2, 2})) }, is(impl.MarkPlan{Steps: []int{0, 1, 2, 2}, Sold: []int{2, 1, 2, 6}, Revenue: 938, Left: 1}, impl.OK)},
		{"BestMarks", bestMarksSaid(fullMarks(100)), marksSearchSaid(fullMarks(100))},
		{"BestMarks at once", atOnce(bestMarksSaid(cakes())), marksSearchSaid(cakes())},
		{"Smooth", func() string { return fmt.Sprint(impl.Smooth([]int{1, 0, 2}, 1, 3)) }, is([]int{64, 42, 70}, impl.OK)},
		{"Seasons", func() string { return fmt.Sprint(impl.Seasons([]int{1, 0, 3, 0}, 2)) }, is(ratiosOf([2]int{2, 1}, [2]int{0, 1}), impl.OK)},
		{"Odds", func() string { return fmt.Sprint(impl.Odds([]int{1, 2, 1}, 2)) }, is([]int{1, 4, 6, 4, 1}, impl.OK)},
		{"SafeLevel", func() string { return fmt.Sprint(impl.SafeLevel([]int{1, 2, 1}, 2, 12, 16)) }, is(3, impl.OK)},
		{"OrderFor", func() string { return fmt.Sprint(impl.OrderFor(needOf(50, 20, 5, 6, 10, 40))) }, is(12, true, impl.OK)},
		{"FillTrucks", func() string { return fmt.Sprint(impl.FillTrucks(teaLoads(), 10)) }, is([]int{6, 12, 2}, 2, impl.OK)},
		{"NextDay", func() string { return fmt.Sprint(impl.NextDay(weekOf(0, 3), []int{3, 7}, 1)) }, is(10, impl.OK)},
		{"DeliveryDays", func() string { return fmt.Sprint(impl.DeliveryDays(weekOf(0, 3), []int{7}, 0, 15)) }, is([]int{0, 3, 10, 14}, impl.OK)},
		{"SegmentsText", func() string { return fmt.Sprint(impl.SegmentsText(supplierSegments())) }, is(supplierText(), impl.OK)},
		{"ReadSegments", func() string { return fmt.Sprint(impl.ReadSegments(supplierText())) }, is(supplierSegments(), impl.OK, 0)},
		{"ReadSegments of a text that is none", func() string { return fmt.Sprint(impl.ReadSegments("ABC+?x'")) }, is([]impl.Segment{}, impl.ErrSyntax, 5)},
		{"ThreeWay", func() string { return fmt.Sprint(nordPapers().match()) }, is(nordVerdicts(), impl.OK)},
		{"BonusOf", func() string { return fmt.Sprint(impl.BonusOf(yearRungs(), 1034)) }, is(31, impl.OK)},
		{"Between", func() string { return fmt.Sprint(impl.Between(teaHall(), spot(0, 2), spot(2, 3))) }, is(11, impl.OK)},
		{"PathLength", func() string { return fmt.Sprint(impl.PathLength(teaHall(), teaPicks(), []int{0, 1, 2})) }, is(38, impl.OK)},
		{"BestPath", func() string { return fmt.Sprint(impl.BestPath(teaHall(), teaPicks())) }, is([]int{1, 0, 2}, 28, impl.OK)},
		{"BestPath at once", atOnce(func() string { return fmt.Sprint(impl.BestPath(teaHall(), teaPicks())) }), is([]int{1, 0, 2}, 28, impl.OK)},
		{"SortRun", func() string { return fmt.Sprint(impl.SortRun(teaLanes(), teaParcels())) }, is(teaSorted(), impl.OK)},
		{"SortRun at once", atOnce(func() string { return fmt.Sprint(impl.SortRun(teaLanes(), teaParcels())) }), is(teaSorted(), impl.OK)},
		{"StopsOK", func() string { return fmt.Sprint(impl.StopsOK(teaStops())) }, is(true)},
		{"RouteOf", func() string { return fmt.Sprint(impl.RouteOf(teaStops(), 0, []int{1, 0})) }, is(routeOf([]int{1, 0}, []int{5, 31}, 15, 38), impl.OK)},
		{"BestRoute", func() string { return fmt.Sprint(impl.BestRoute(teaStops(), 9)) }, is(routeOf([]int{1, 0}, []int{14, 31}, 6, 38), impl.OK)},
		{"BestRoute at the bound", func() string { return fmt.Sprint(impl.BestRoute(teaStops(), 0)) }, is(routeOf([]int{0, 1}, []int{5, 17}, 3, 26), impl.OK)},
		{"BestRoute at once", atOnce(func() string { return fmt.Sprint(impl.BestRoute(teaStops(), 0)) }), is(routeOf([]int{0, 1}, []int{5, 17}, 3, 26), impl.OK)},
		{"LeastEnd", func() string { return fmt.Sprint(impl.LeastEnd(teaStops(), 0)) }, is(26, impl.OK)},
		{"ShiftsOK", func() string { return fmt.Sprint(impl.ShiftsOK(teaShifts(), teaWorkers())) }, is(true)},
		{"RosterOf", func() string { return fmt.Sprint(impl.RosterOf(teaShifts(), teaWorkers(), []int{0, 0, 1})) }, is(impl.Roster{}, impl.ErrState, 1)},
		{"BestRoster", func() string { return fmt.Sprint(impl.BestRoster(teaShifts(), teaWorkers())) }, is(rosterOf(930, 0, 1, 1), impl.OK)},
		{"BestRoster at once", atOnce(func() string { return fmt.Sprint(impl.BestRoster(apartShifts(3), freeWorkers(5))) }), is(rosterOf(30, 0, 0, 0), impl.OK)},
		{"WatchOf", func() string { return fmt.Sprint(impl.WatchOf([]float64{4, gaps()[0], 6.5, 4.5})) }, is(impl.Watch{Count: 3, Gaps: 1, Mean: 5, Least: 4, Most: 6.5}, impl.OK)},
		{"Alarms", func() string { return fmt.Sprint(impl.Alarms([]float64{8, 9, 7, 5, 9, 9}, 7.5, 5, 2)) }, is(alarmsAt(1, 3, 5, 6), impl.OK)},
		{"WarmMinutes", func() string { return fmt.Sprint(impl.WarmMinutes([]float64{8, 6, gaps()[0], 9}, 7, 1.5)) }, is(4.5, impl.OK)},
		{"PowerOf", func() string {
			return fmt.Sprint(impl.PowerOf([]impl.Power{powerAt(3, 4)}, []impl.Power{powerAt(1, 2)}))
		}, is(powerAt(11, -2), impl.OK)},
		{"Bridge", func() string { return fmt.Sprint(impl.Bridge([]impl.Power{powerAt(2, 0), powerAt(0, 2)})) }, is(powerAt(0.5, -0.5), impl.OK)},
		{"SourcesOK", func() string { return fmt.Sprint(impl.SourcesOK(webSources(), webWanted())) }, is(true)},
		{"SourceOf", func() string { return fmt.Sprint(impl.SourceOf(webSources(), webWanted(), []int{1, 2})) }, is(sendingOf(2, 300, 1, 2), impl.OK)},
		{"BestSource", func() string { return fmt.Sprint(impl.BestSource(webSources(), webWanted())) }, is(sendingOf(1, 300, 0, 0), impl.OK)},
		{"BestSource at once", atOnce(func() string { return fmt.Sprint(impl.BestSource(webSources(), webWanted())) }), is(sendingOf(1, 300, 0, 0), impl.OK)},
		{"CartRun", func() string { return fmt.Sprint(impl.CartRun(10, cartActs(cartHeld(1, 6, 5), cartHeld(2, 5, 5)))) }, is([]impl.CartObs{{Free: 4}, {Code: impl.ErrShort, Free: 4}}, cartsOf(0, 4, 0, holdOf(1, 6, 5)), impl.OK)},
		{"CodeWord", func() string { return fmt.Sprint(impl.CodeWord(impl.ErrShort)) }, is("short")},
		{"CodeOf", func() string { return fmt.Sprint(impl.CodeOf("short")) }, is(impl.ErrShort)},
	}
}

func payRunSaid(acts []impl.PayAct) func() string {
	return func() string { return fmt.Sprint(impl.PayRun(acts)) }
}

func wordsSaid(acts []impl.PayAct) func() string {
	return func() string {
		codes, payments := payRunByWords(acts)
		return fmt.Sprint(codes, payments, impl.OK)
	}
}

func stockRunSaid(acts []impl.StockAct) func() string {
	return func() string { return fmt.Sprint(impl.StockRun(acts)) }
}

func stockWordsSaid(acts []impl.StockAct) func() string {
	return func() string {
		told, stock := stockRunByWords(acts)
		return fmt.Sprint(told, stock, impl.OK)
	}
}

func bestMarksSaid(m markdown) func() string {
	return func() string { return fmt.Sprint(m.best()) }
}

func marksSearchSaid(m markdown) func() string {
	return func() string { return fmt.Sprint(m.bestBySearch(), impl.OK) }
}

// atOnce makes a call several times side by side; it answers what all of them do, or each one.
func atOnce(call func() string) func() string {
	return func() string {
		said := make([]string, 8)
		var wait sync.WaitGroup
		for i := range said {
			wait.Go(func() { said[i] = call() })
		}
		wait.Wait()
		if all := slices.Compact(slices.Clone(said)); len(all) == 1 {
			return all[0]
		}
		return strings.Join(said, "; ")
	}
}

// Each of these calls is the first one of a process of its own, so that nothing was called ahead of it.
func TestP1TheFirstCallOfAProcess(t *testing.T) {
	own, err := os.Executable()
	if err != nil {
		t.Fatal(err)
	}
	for _, c := range firstCalls() {
		process := exec.Command(own, "-test.run=^TestFirstCallAlone$")
		process.Env = append(os.Environ(), firstCallKey+"="+c.name)
		said, err := process.CombinedOutput()
		want := c.want()
		if err != nil || !strings.Contains(string(said), fmt.Sprintf("%s: %q\n", c.name, want)) {
			t.Errorf("%s, called first: %v, %.600s; want %q", c.name, err, said, want)
		}
		if now := c.call(); now != want {
			t.Errorf("%s, called later: %q; want %q", c.name, now, want)
		}
	}
}

// TestFirstCallAlone makes the call that its process is for; without one it has nothing to do.
func TestFirstCallAlone(t *testing.T) {
	for _, c := range firstCalls() {
		if c.name == os.Getenv(firstCallKey) {
			fmt.Printf("%s: %q\n", c.name, c.call())
		}
	}
}

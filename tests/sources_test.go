package tests

import (
	"fmt"
	"math"
	"math/rand/v2"
	"slices"
	"strings"
	"testing"

	"loop.example/g00067/impl"
)

func stocked(article string, units int) impl.Stocked {
	return impl.Stocked{Article: article, Units: units}
}

func stockedOf(list ...impl.Stocked) []impl.Stocked { return list }

func sourceOf(name string, ship int, stock ...impl.Stocked) impl.Source {
	return impl.Source{Name: name, Ship: ship, Stock: stock}
}

func sourcesOf(list ...impl.Source) []impl.Source { return list }

func sendingOf(shipments, cost int, from ...int) impl.Sourcing {
	return impl.Sourcing{From: from, Shipments: shipments, Cost: cost}
}

func sameSending(a, b impl.Sourcing) bool {
	return a.Shipments == b.Shipments && a.Cost == b.Cost && slices.Equal(a.From, b.From)
}

func sendingSaid(sources []impl.Source, wanted []impl.Stocked, from []int) string {
	return fmt.Sprintf("(%.300s, %.300s, %.100s)", fmt.Sprint(sources), fmt.Sprint(wanted), fmt.Sprint(from))
}

func stockedByWords(stock []impl.Stocked, most, leastUnits int) bool {
	if len(stock) > most {
		return false
	}
	seen := map[string]bool{}
	for _, entry := range stock {
		if seen[entry.Article] || !impl.NameOK(entry.Article) || entry.Units < leastUnits || entry.Units > 100000 {
			return false
		}
		seen[entry.Article] = true
	}
	return true
}

func sourcesByWords(sources []impl.Source, wanted []impl.Stocked) bool {
	if len(sources) > 6 {
		return false
	}
	seen := map[string]bool{}
	for _, source := range sources {
		if seen[source.Name] || !impl.NameOK(source.Name) || source.Ship < 0 || source.Ship > 1000000 || !stockedByWords(source.Stock, 12, 0) {
			return false
		}
		seen[source.Name] = true
	}
	return stockedByWords(wanted, 5, 1)
}

func sourcesCodeByWords(sources []impl.Source, wanted []impl.Stocked) int {
	switch {
	case len(sources) > 4096, len(wanted) > 4096:
		return impl.ErrLong
	case !sourcesByWords(sources, wanted):
		return impl.ErrBad
	}
	return impl.OK
}

func unitsThere(source impl.Source, article string) int {
	for _, entry := range source.Stock {
		if entry.Article == article {
			return entry.Units
		}
	}
	return 0
}

func sendingByWords(sources []impl.Source, wanted []impl.Stocked, from []int) (impl.Sourcing, int) {
	if len(from) > 4096 {
		return impl.Sourcing{}, impl.ErrLong
	}
	if code := sourcesCodeByWords(sources, wanted); code != impl.OK {
		return impl.Sourcing{}, code
	}
	if len(from) != len(wanted) || slices.ContainsFunc(from, func(number int) bool { return number < 0 || number >= len(sources) }) {
		return impl.Sourcing{}, impl.ErrForm
	}
	for place, entry := range wanted {
		if unitsThere(sources[from[place]], entry.Article) < entry.Units {
			return impl.Sourcing{}, impl.ErrShort
		}
	}
	sending := impl.Sourcing{From: from}
	for number, source := range sources {
		if slices.Contains(from, number) {
			sending.Shipments++
			sending.Cost += source.Ship
		}
	}
	return sending, impl.OK
}

func wantSourcesOK(t *testing.T, sources []impl.Source, wanted []impl.Stocked, want bool) {
	t.Helper()
	if got := impl.SourcesOK(sources, wanted); got != want {
		t.Errorf("SourcesOK%s = %v", sendingSaid(sources, wanted, nil), got)
	}
}

func wantSending(t *testing.T, sources []impl.Source, wanted []impl.Stocked, from []int, want impl.Sourcing, wantCode int) {
	t.Helper()
	got, code := impl.SourceOf(sources, wanted, from)
	if code != wantCode || !sameSending(got, want) {
		t.Errorf("SourceOf%s = %+v, %d; want %+v, %d", sendingSaid(sources, wanted, from), got, code, want, wantCode)
	}
}

func wantNoSending(t *testing.T, sources []impl.Source, wanted []impl.Stocked, from []int, code int) {
	t.Helper()
	wantSending(t, sources, wanted, from, impl.Sourcing{}, code)
}

func wantSendingByWords(t *testing.T, sources []impl.Source, wanted []impl.Stocked, from []int) int {
	t.Helper()
	want, code := sendingByWords(sources, wanted, from)
	wantSending(t, sources, wanted, from, want, code)
	return code
}

// webSources: the hub has all of it, the others some.
func webSources() []impl.Source {
	return sourcesOf(
		sourceOf("hub", 300, stocked("a", 5), stocked("b", 5)),
		sourceOf("north", 120, stocked("a", 9)),
		sourceOf("south", 180, stocked("b", 2)),
	)
}

func webWanted() []impl.Stocked { return stockedOf(stocked("a", 2), stocked("b", 2)) }

// fullStock has as many articles n0, n1, .. as are asked for.
func fullStock(count, units int) []impl.Stocked {
	var stock []impl.Stocked
	for _, name := range someNames(count) {
		stock = append(stock, stocked(name, units))
	}
	return stock
}

func fullSources(count, kinds, units int) []impl.Source {
	var sources []impl.Source
	for number, name := range someNames(count) {
		sources = append(sources, sourceOf(name, 10*number, fullStock(kinds, units)...))
	}
	return sources
}

func longestName() string { return strings.Repeat("n", impl.MaxName) }

func rightStocks() [][]impl.Stocked {
	return [][]impl.Stocked{
		nil, {}, stockedOf(stocked("a", 0)), stockedOf(stocked("a", 1)), stockedOf(stocked("a", impl.MaxMany-1)), stockedOf(stocked("a", impl.MaxMany)),
		stockedOf(stocked("a", 3), stocked("A", 3)), stockedOf(stocked("käse", 3), stocked(longestName(), 3), stocked("_9", 3), stocked("Ω", 0)),
		fullStock(impl.MaxKinds-1, 0), fullStock(impl.MaxKinds, 0), fullStock(impl.MaxKinds, impl.MaxMany),
	}
}

func wrongStocks() [][]impl.Stocked {
	lists := [][]impl.Stocked{
		stockedOf(stocked("a", 1), stocked("a", 1)), stockedOf(stocked("a", 1), stocked("b", 1), stocked("a", 2)), stockedOf(stocked("b", 0), stocked("b", 0)),
		fullStock(impl.MaxKinds+1, 1), fullStock(impl.MaxKinds+2, 0), fullStock(impl.MaxList, 1), fullStock(impl.MaxList+1, 1), make([]impl.Stocked, 1),
		make([]impl.Stocked, impl.MaxKinds), make([]impl.Stocked, 2*impl.MaxList), append(fullStock(impl.MaxKinds-1, 1), stocked("n0", 1)),
	}
	for _, article := range textsThatAreNoNames() {
		lists = append(lists, stockedOf(stocked(article, 1)), stockedOf(stocked("a", 1), stocked(article, 1)))
	}
	for _, units := range []int{math.MinInt, -impl.MaxMany, -1, impl.MaxMany + 1, impl.MaxCost, math.MaxInt32 + 1, 1<<32 + 1, math.MaxInt} {
		lists = append(lists, stockedOf(stocked("a", units)), stockedOf(stocked("a", 1), stocked("b", units)), append(fullStock(impl.MaxKinds-1, 0), stocked("a", units)))
	}
	return lists
}

func wrongSources() []impl.Source {
	var list []impl.Source
	for _, name := range textsThatAreNoNames() {
		list = append(list, sourceOf(name, 5, stocked("a", 1)), sourceOf(name, 5))
	}
	for _, ship := range []int{math.MinInt, -impl.MaxCost, -1, impl.MaxCost + 1, impl.MaxMoney, math.MaxInt32 + 1, 1<<32 + 1, math.MaxInt} {
		list = append(list, sourceOf("s", ship, stocked("a", 1)), sourceOf("s", ship))
	}
	for _, stock := range wrongStocks() {
		list = append(list, sourceOf("s", 5, stock...))
	}
	return list
}

func rightWanted() [][]impl.Stocked {
	return [][]impl.Stocked{
		nil, {}, stockedOf(stocked("a", 1)), stockedOf(stocked("a", impl.MaxMany)), stockedOf(stocked("a", 1), stocked("A", 1)), stockedOf(stocked("ä", 2), stocked(longestName(), 2), stocked("_", 2)),
		fullStock(impl.MaxWanted-1, 1), fullStock(impl.MaxWanted, 1), fullStock(impl.MaxWanted, impl.MaxMany),
	}
}

func wrongWanted() [][]impl.Stocked {
	return append(wrongStocks(),
		stockedOf(stocked("a", 0)), stockedOf(stocked("a", 1), stocked("b", 0)), fullStock(impl.MaxWanted, 0), append(fullStock(impl.MaxWanted-1, 1), stocked("a", 0)),
		fullStock(impl.MaxWanted+1, 1), fullStock(impl.MaxWanted+2, 1), fullStock(impl.MaxKinds, 1), make([]impl.Stocked, impl.MaxWanted), append(fullStock(impl.MaxWanted-1, 1), stocked("n1", 1)))
}

func wrongListsOfSources() [][]impl.Source {
	lists := [][]impl.Source{
		sourcesOf(sourceOf("s", 1), sourceOf("s", 1)), sourcesOf(sourceOf("s", 1, stocked("a", 1)), sourceOf("t", 2), sourceOf("s", 3, stocked("b", 1))),
		make([]impl.Source, 1), make([]impl.Source, impl.MaxSources), append(fullSources(impl.MaxSources-1, 1, 1), sourceOf("n0", 1)),
	}
	for _, count := range []int{impl.MaxSources + 1, impl.MaxSources + 2, 100, impl.MaxList} {
		lists = append(lists, fullSources(count, 1, 9), make([]impl.Source, count))
	}
	for _, wrong := range wrongSources() {
		lists = append(lists, sourcesOf(wrong), sourcesOf(sourceOf("x", 1, stocked("a", 9)), wrong), sourcesOf(wrong, sourceOf("x", 1, stocked("a", 9))), append(fullSources(impl.MaxSources-1, 2, 9), wrong))
	}
	return lists
}

func longListsOfSources() [][]impl.Source {
	return [][]impl.Source{fullSources(impl.MaxList+1, 0, 0), make([]impl.Source, impl.MaxList+1), make([]impl.Source, 3*impl.MaxList)}
}

func longWanted() [][]impl.Stocked {
	return [][]impl.Stocked{fullStock(impl.MaxList+1, 1), make([]impl.Stocked, impl.MaxList+1), make([]impl.Stocked, 3*impl.MaxList)}
}

func TestWebBounds(t *testing.T) {
	got := []int{impl.MaxSources, impl.MaxWanted, impl.MaxHold, impl.CaHold, impl.CaBuy, impl.CaDrop, impl.CaTick, impl.MaxKinds, impl.MaxCost, impl.MaxMany, impl.MaxLotNo, impl.MaxActs}
	if !slices.Equal(got, []int{6, 5, 10000, 1, 2, 3, 4, 12, 1000000, 100000, 1000000, 200}) {
		t.Error("constants", got)
	}
}

func TestP24SourcesThatAreRight(t *testing.T) {
	for _, wanted := range rightWanted() {
		for _, stock := range rightStocks() {
			wantSourcesOK(t, nil, wanted, true)
			wantSourcesOK(t, []impl.Source{}, wanted, true)
			for _, name := range []string{"s", "S", "_", "ä", "a9", longestName(), strings.Repeat("ä", impl.MaxName/2)} {
				wantSourcesOK(t, sourcesOf(sourceOf(name, 5, stock...)), wanted, true)
			}
			for _, ship := range []int{0, 1, impl.MaxCost - 1, impl.MaxCost} {
				wantSourcesOK(t, sourcesOf(sourceOf("s", ship, stock...), sourceOf("t", ship, stock...)), wanted, true)
			}
			wantSourcesOK(t, append(fullSources(impl.MaxSources-1, 3, 4), sourceOf("s", 5, stock...)), wanted, true)
		}
	}
	wantSourcesOK(t, sourcesOf(sourceOf("a", 1, stocked("a", 1)), sourceOf("A", 1, stocked("a", 1)), sourceOf("a_", 1, stocked("a", 1))), stockedOf(stocked("a", 1)), true) // a name of a source may be one of an article
	wantSourcesOK(t, fullSources(impl.MaxSources, impl.MaxKinds, impl.MaxMany), fullStock(impl.MaxWanted, impl.MaxMany), true)
}

func TestP24SourcesThatAreWrong(t *testing.T) {
	for _, wanted := range append(rightWanted(), wrongWanted()[:8]...) {
		for _, sources := range wrongListsOfSources() {
			wantSourcesOK(t, sources, wanted, false)
		}
		for _, sources := range longListsOfSources() {
			wantSourcesOK(t, sources, wanted, false)
		}
	}
	for _, sources := range [][]impl.Source{nil, webSources(), fullSources(impl.MaxSources, impl.MaxKinds, impl.MaxMany)} {
		for _, wanted := range wrongWanted() {
			wantSourcesOK(t, sources, wanted, false)
		}
		for _, wanted := range longWanted() {
			wantSourcesOK(t, sources, wanted, false)
		}
	}
}

func TestP24SendingsByHand(t *testing.T) {
	sources, wanted := webSources(), webWanted()
	wantSending(t, sources, wanted, []int{0, 0}, sendingOf(1, 300, 0, 0), impl.OK)
	wantSending(t, sources, wanted, []int{1, 2}, sendingOf(2, 300, 1, 2), impl.OK)
	wantSending(t, sources, wanted, []int{0, 2}, sendingOf(2, 480, 0, 2), impl.OK)
	wantSending(t, sources, wanted, []int{1, 0}, sendingOf(2, 420, 1, 0), impl.OK)
	for _, from := range [][]int{{2, 2}, {2, 0}, {1, 1}, {0, 1}, {2, 1}} { // one has the Article, or neither
		wantNoSending(t, sources, wanted, from, impl.ErrShort)
	}
	for _, none := range [][]impl.Source{nil, {}, sources} {
		for _, from := range [][]int{nil, {}} {
			wantSending(t, none, nil, from, impl.Sourcing{}, impl.OK)
			wantSending(t, none, []impl.Stocked{}, from, impl.Sourcing{}, impl.OK)
		}
	}
	for _, units := range []int{1, 4, 5} { // just enough, one less
		wantSending(t, sources, stockedOf(stocked("b", units)), []int{0}, sendingOf(1, 300, 0), impl.OK)
	}
	for _, units := range []int{6, 100, impl.MaxMany} {
		wantNoSending(t, sources, stockedOf(stocked("b", units)), []int{0}, impl.ErrShort)
	}
	for _, article := range []string{"A", "c", "aa", "a_", "hub"} {
		wantNoSending(t, sources, stockedOf(stocked(article, 1)), []int{0}, impl.ErrShort)
	}
	wantNoSending(t, sourcesOf(sourceOf("s", 1, stocked("a", 0))), stockedOf(stocked("a", 1)), []int{0}, impl.ErrShort)
	full := fullSources(impl.MaxSources, impl.MaxKinds, impl.MaxMany)
	most := fullStock(impl.MaxWanted, impl.MaxMany)
	wantSending(t, full, most, []int{5, 4, 3, 2, 1}, sendingOf(5, 150, 5, 4, 3, 2, 1), impl.OK)
	wantSending(t, full, most, []int{5, 5, 0, 0, 5}, sendingOf(2, 50, 5, 5, 0, 0, 5), impl.OK)
	wantSending(t, full, most, []int{1, 2, 1, 2, 1}, sendingOf(2, 30, 1, 2, 1, 2, 1), impl.OK)
	for number := range full {
		full[number].Ship = impl.MaxCost
	}
	wantSending(t, full, most, []int{5, 4, 3, 2, 1}, sendingOf(5, 5000000, 5, 4, 3, 2, 1), impl.OK)
	for number := range full {
		full[number].Ship = 0
	}
	wantSending(t, full, most, []int{0, 1, 0, 1, 2}, sendingOf(3, 0, 0, 1, 0, 1, 2), impl.OK)
}

func TestP24FromThatFitsNot(t *testing.T) {
	full, most := fullSources(impl.MaxSources, impl.MaxKinds, 9), fullStock(impl.MaxWanted, 9)
	for count := range impl.MaxWanted + 1 {
		for number := range impl.MaxSources + 1 {
			sources, wanted := full[:number], most[:count]
			for length := range 9 {
				for _, from := range [][]int{alike(0, length), alike(number-1, length)} {
					if length != count {
						wantNoSending(t, sources, wanted, from, impl.ErrForm)
					}
				}
			}
			for _, wrong := range []int{math.MinInt, -1 << 32, -1, number, number + 1, impl.MaxSources, 1 << 32, math.MaxInt} {
				for place := range count {
					from := alike(0, count)
					if from[place] = wrong; wrong >= number || wrong < 0 {
						wantNoSending(t, sources, wanted, from, impl.ErrForm)
					}
				}
			}
			for _, length := range []int{100, impl.MaxList} {
				wantNoSending(t, sources, wanted, alike(0, length), impl.ErrForm)
			}
			wantNoSending(t, sources, wanted, alike(0, impl.MaxList+1), impl.ErrLong)
			wantNoSending(t, sources, wanted, alike(0, 2*impl.MaxList), impl.ErrLong)
		}
	}
}

func TestP24WhichFaultOfASendingComesFirst(t *testing.T) {
	sources, wanted := webSources(), webWanted()
	for _, from := range [][]int{nil, {0}, {0, 0}, {2, 2}, {-1, 0}, {0, 3}, alike(0, impl.MaxList)} {
		for _, wrong := range wrongListsOfSources() {
			wantNoSending(t, wrong, wanted, from, impl.ErrBad)
		}
		for _, wrong := range wrongWanted() {
			if len(wrong) <= impl.MaxList {
				wantNoSending(t, sources, wrong, from, impl.ErrBad)
				wantNoSending(t, nil, wrong, from, impl.ErrBad)
			} else {
				wantNoSending(t, sources, wrong, from, impl.ErrLong)
			}
		}
		for _, long := range longListsOfSources() {
			wantNoSending(t, long, wanted, from, impl.ErrLong)
			wantNoSending(t, long, make([]impl.Stocked, 1), from, impl.ErrLong)
		}
		for _, long := range longWanted() {
			wantNoSending(t, sources, long, from, impl.ErrLong)
			wantNoSending(t, make([]impl.Source, 1), long, from, impl.ErrLong)
		}
	}
	wantNoSending(t, make([]impl.Source, 1), wanted, alike(0, impl.MaxList+1), impl.ErrLong)
	wantNoSending(t, sources, make([]impl.Stocked, 1), alike(0, impl.MaxList+1), impl.ErrLong)
	wantNoSending(t, sources, wanted, []int{2, 3}, impl.ErrForm) // though the first has not enough
	wantNoSending(t, sources, wanted, []int{2, -1}, impl.ErrForm)
	wantNoSending(t, sources, wanted, []int{2}, impl.ErrForm)
	wantNoSending(t, sources, wanted, []int{2, 1, 0}, impl.ErrForm)
	wantNoSending(t, nil, wanted, []int{0, 0}, impl.ErrForm)
}

// someStock has some of the articles a, b, c, .., in any order.
func someStock(r *rand.Rand, articles, most int) []impl.Stocked {
	var stock []impl.Stocked
	for _, number := range r.Perm(articles) {
		if r.IntN(4) > 0 {
			stock = append(stock, stocked(string(rune('a'+number)), r.IntN(most+1)))
		}
	}
	return stock
}

func someSources(r *rand.Rand, count, articles, most, ship int) []impl.Source {
	var sources []impl.Source
	for _, name := range someNames(count) {
		sources = append(sources, sourceOf(name, r.IntN(ship+1), someStock(r, articles, most)...))
	}
	return sources
}

func someWanted(r *rand.Rand, count, articles, most int) []impl.Stocked {
	var wanted []impl.Stocked
	for _, number := range r.Perm(articles)[:count] {
		wanted = append(wanted, stocked(string(rune('a'+number)), 1+r.IntN(most)))
	}
	return wanted
}

func TestP24SendingsByWords(t *testing.T) {
	r := fixed()
	seen := map[int]int{}
	for range 20000 {
		sources, wanted := someSources(r, 1+r.IntN(impl.MaxSources), 6, 3, 5), someWanted(r, r.IntN(impl.MaxWanted+1), 6, 1+r.IntN(3))
		from := alike(0, len(wanted))
		for place := range from {
			from[place] = r.IntN(len(sources))
		}
		if r.IntN(20) == 0 {
			from = append(from, 0)
		}
		if r.IntN(20) == 0 && len(from) > 0 {
			from[r.IntN(len(from))] = len(sources)
		}
		if r.IntN(20) == 0 {
			sources = append(sources, sources[0])
		}
		seen[wantSendingByWords(t, sources, wanted, from)]++
	}
	if min(seen[impl.OK], seen[impl.ErrShort], seen[impl.ErrForm], seen[impl.ErrBad]) < 200 {
		t.Error("too few of one code", seen)
	}
}

// Every From, and some that fit not, of small sources.
func TestP24EverySmallSending(t *testing.T) {
	seen := map[int]int{}
	sources, wanted := webSources(), append(webWanted(), stocked("c", 3))
	sources[1].Stock = append(sources[1].Stock, stocked("c", 3))
	sources[2].Stock = append(sources[2].Stock, stocked("c", 2), stocked("a", 1))
	for have := range len(sources) + 1 {
		for count := range len(wanted) + 1 {
			for length := range 5 {
				eachCounts(length, -1, 3, func(from []int) {
					seen[wantSendingByWords(t, sources[:have], wanted[:count], from)]++
				})
			}
		}
	}
	if min(seen[impl.OK], seen[impl.ErrShort], seen[impl.ErrForm]/20) < 12 {
		t.Error("too few of one code", seen)
	}
}

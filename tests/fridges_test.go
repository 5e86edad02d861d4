package tests

import (
	"fmt"
	"math"
	"math/big"
	"math/rand/v2"
	"slices"
	"testing"

	"loop.example/g00067/impl"
)

// exact has room for each sum and product of numbers that are reckoned with here, and -0 stays -0 in it.
func exact(x float64) *big.Float { return new(big.Float).SetPrec(4000).SetFloat64(x) }

func rounded(x *big.Float) float64 {
	near, _ := x.Float64()
	return near
}

func sumExactly(a, b float64) float64 { return rounded(exact(a).Add(exact(a), exact(b))) }

func lessExactly(a, b float64) float64 { return rounded(exact(a).Sub(exact(a), exact(b))) }

func timesExactly(a, b float64) float64 { return rounded(exact(a).Mul(exact(a), exact(b))) }

// partExactly takes b to be above 0.
func partExactly(a, b float64) float64 { return rounded(exact(a).Quo(exact(a), exact(b))) }

func rounded32(x *big.Float) float32 {
	near, _ := x.Float32()
	return near
}

func sumExactly32(a, b float32) float32 {
	return rounded32(exact(0).Add(exact(float64(a)), exact(float64(b))))
}

func timesExactly32(a, b float32) float32 {
	return rounded32(exact(0).Mul(exact(float64(a)), exact(float64(b))))
}

func minusNought() float64 { return math.Copysign(0, -1) }

// gaps are numbers that are none, of different bits.
func gaps() []float64 {
	list := []float64{math.NaN()}
	for _, bits := range []uint64{0x7ff0000000000001, 0x7ff8000000000000, 0x7fffffffffffffff, 0xfff0000000000001, 0xfff8000000000000, 0xffffffffffffffff} {
		list = append(list, math.Float64frombits(bits))
	}
	return list
}

// beyond are the next numbers below and above those from -most to most, and others that are farther.
func beyond(most float64) []float64 {
	list := []float64{math.Nextafter(most, 2*most), most + 1, 2 * most, math.MaxFloat64, math.Inf(1)}
	for _, number := range slices.Clone(list) {
		list = append(list, -number)
	}
	return list
}

func sameBits(a, b float64) bool { return math.Float64bits(a) == math.Float64bits(b) }

func sameWatch(a, b impl.Watch) bool {
	return a.Count == b.Count && a.Gaps == b.Gaps && sameBits(a.Mean, b.Mean) && sameBits(a.Least, b.Least) && sameBits(a.Most, b.Most)
}

// isMissing looks at the bits alone.
func isMissing(number float64) bool { return math.Float64bits(number)<<1 > 0x7ff<<53 }

func onesThere(trace []float64) []float64 { return slices.DeleteFunc(slices.Clone(trace), isMissing) }

func traceCodeByWords(trace []float64) int {
	if len(trace) > 4096 {
		return impl.ErrLong
	}
	for _, number := range onesThere(trace) {
		if math.Abs(number) > 1000 {
			return impl.ErrBad
		}
	}
	if len(trace) > 200 {
		return impl.ErrBad
	}
	return impl.OK
}

// firstThat tells the first number that none stands against.
func firstThat(list []float64, against func(other, number float64) bool) float64 {
	return list[slices.IndexFunc(list, func(number float64) bool {
		return !slices.ContainsFunc(list, func(other float64) bool { return against(other, number) })
	})]
}

func watchByWords(trace []float64) (impl.Watch, int) {
	if code := traceCodeByWords(trace); code != impl.OK {
		return impl.Watch{}, code
	}
	list := onesThere(trace)
	if len(list) == 0 {
		return impl.Watch{}, impl.ErrNone
	}
	sum := 0.0
	for _, number := range list {
		sum = sumExactly(sum, number)
	}
	return impl.Watch{
		Count: len(list),
		Gaps:  len(trace) - len(list),
		Mean:  partExactly(sum, float64(len(list))),
		Least: firstThat(list, func(other, number float64) bool { return other < number }),
		Most:  firstThat(list, func(other, number float64) bool { return other > number }),
	}, impl.OK
}

func wantWatch(t *testing.T, trace []float64, want impl.Watch, code int) {
	t.Helper()
	if told, c := impl.WatchOf(trace); c != code || !sameWatch(told, want) {
		t.Errorf("WatchOf of %d, %.300s: %+v, %d; want %+v, %d", len(trace), fmt.Sprint(trace), told, c, want, code)
	}
}

func wantWatchByWords(t *testing.T, trace []float64) {
	t.Helper()
	want, code := watchByWords(trace)
	wantWatch(t, trace, want, code)
}

func placesThere(trace []float64) []int {
	var places []int
	for place, number := range trace {
		if !isMissing(number) {
			places = append(places, place)
		}
	}
	return places
}

// alarmsAt are alarms by pairs of numbers.
func alarmsAt(pairs ...int) []impl.Alarm {
	var alarms []impl.Alarm
	for pair := range slices.Chunk(pairs, 2) {
		alarms = append(alarms, impl.Alarm{From: pair[0], To: pair[1]})
	}
	return alarms
}

// alarmsByWords looks, from each place on, for the next hold numbers that are all above high.
func alarmsByWords(trace []float64, high, low float64, hold int) ([]impl.Alarm, int) {
	if code := traceCodeByWords(trace); code != impl.OK {
		return nil, code
	}
	for _, number := range []float64{high, low} {
		if isMissing(number) || math.Abs(number) > 1000 {
			return nil, impl.ErrBad
		}
	}
	if low > high || hold < 1 || hold > 200 {
		return nil, impl.ErrBad
	}
	var alarms []impl.Alarm
	places := placesThere(trace)
	for first := 0; first+hold <= len(places); first++ {
		if slices.ContainsFunc(places[first:first+hold], func(place int) bool { return trace[place] <= high }) {
			continue
		}
		on := first + hold - 1
		alarm := impl.Alarm{From: places[on], To: len(trace)}
		off := slices.IndexFunc(places[on:], func(place int) bool { return trace[place] <= low })
		if off < 0 {
			return append(alarms, alarm), impl.OK
		}
		alarm.To = places[on+off]
		alarms = append(alarms, alarm)
		first = on + off
	}
	return alarms, impl.OK
}

func wantAlarms(t *testing.T, trace []float64, high, low float64, hold int, want []impl.Alarm, code int) {
	t.Helper()
	if told, c := impl.Alarms(trace, high, low, hold); c != code || !slices.Equal(told, want) {
		t.Errorf("Alarms of %d, %.300s, %v, %v, %d: %v, %d; want %v, %d", len(trace), fmt.Sprint(trace), high, low, hold, told, c, want, code)
	}
}

func wantAlarmsByWords(t *testing.T, trace []float64, high, low float64, hold int) {
	t.Helper()
	want, code := alarmsByWords(trace, high, low, hold)
	wantAlarms(t, trace, high, low, hold, want, code)
}

func warmByWords(trace []float64, limit float64, base float32) (float32, int) {
	if code := traceCodeByWords(trace); code != impl.OK {
		return 0, code
	}
	if isMissing(limit) || math.Abs(limit) > 1000 || isMissing(float64(base)) || base < 1 || base > 4 {
		return 0, impl.ErrBad
	}
	var minutes float32
	for _, number := range onesThere(trace) {
		if number > limit {
			over := rounded32(exact(lessExactly(number, limit)))
			minutes = sumExactly32(minutes, timesExactly32(over, base))
		}
	}
	return minutes, impl.OK
}

func wantWarm(t *testing.T, trace []float64, limit float64, base float32, want float32, code int) {
	t.Helper()
	if told, c := impl.WarmMinutes(trace, limit, base); c != code || math.Float32bits(told) != math.Float32bits(want) {
		t.Errorf("WarmMinutes of %d, %.300s, %v, %v: %v, %d; want %v, %d", len(trace), fmt.Sprint(trace), limit, base, told, c, want, code)
	}
}

func wantWarmByWords(t *testing.T, trace []float64, limit float64, base float32) {
	t.Helper()
	want, code := warmByWords(trace, limit, base)
	wantWarm(t, trace, limit, base, want, code)
}

// anyDegree is a number of a trace: a whole one, one of noughts and very small ones, or one of any size.
func anyDegree(r *rand.Rand) float64 {
	switch r.IntN(6) {
	case 0:
		return float64(r.IntN(11) - 5)
	case 1:
		return []float64{0, minusNought(), 5e-324, -5e-324, 1000, -1000, 1e-17, -1e-17}[r.IntN(8)]
	case 2:
		return float64(r.IntN(2001)-1000) / 10
	case 3:
		return gaps()[r.IntN(len(gaps()))]
	case 4:
		return math.Ldexp(2*r.Float64()-1, -r.IntN(60))
	}
	return 2000*r.Float64() - 1000
}

func anyTrace(r *rand.Rand, most int) []float64 {
	var trace []float64
	for range r.IntN(most + 1) {
		trace = append(trace, anyDegree(r))
	}
	return trace
}

// coldTrace changes little from number to number, so that alarms go on and off.
func coldTrace(r *rand.Rand, count int) []float64 {
	var trace []float64
	now := 0
	for range count {
		now += r.IntN(5) - 2
		now = max(-6, min(6, now))
		number := float64(now)
		if r.IntN(6) == 0 {
			number = math.NaN()
		}
		trace = append(trace, number)
	}
	return trace
}

// eachTrace goes through all lists of so many of the numbers.
func eachTrace(count int, numbers []float64, do func(trace []float64)) {
	eachCounts(count, 0, len(numbers)-1, func(places []int) {
		var trace []float64
		for _, place := range places {
			trace = append(trace, numbers[place])
		}
		do(trace)
	})
}

func manyDegrees(number float64, count int) []float64 {
	return slices.Repeat([]float64{number}, count)
}

// wrongTraces are no traces; those whose code is another than ErrBad are not among them.
func wrongTraces() [][]float64 {
	traces := [][]float64{manyDegrees(0, impl.MaxTrace+1), manyDegrees(math.NaN(), impl.MaxTrace+1), manyDegrees(1, impl.MaxList), manyDegrees(math.NaN(), impl.MaxList)}
	for _, number := range beyond(1000) {
		traces = append(traces, []float64{number}, []float64{number, 1, 2}, []float64{1, number, 2}, []float64{1, 2, number}, []float64{math.NaN(), number}, []float64{number, math.NaN()})
		traces = append(traces, append(manyDegrees(1, impl.MaxTrace-1), number), append(manyDegrees(math.NaN(), impl.MaxTrace-1), number), append([]float64{number}, manyDegrees(1, impl.MaxTrace-1)...))
	}
	return traces
}

func longTraces() [][]float64 {
	return [][]float64{manyDegrees(0, impl.MaxList+1), manyDegrees(math.NaN(), impl.MaxList+1), manyDegrees(math.Inf(1), impl.MaxList+1), manyDegrees(5000, 2*impl.MaxList)}
}

func rightTraces() [][]float64 {
	nan := math.NaN()
	return [][]float64{
		nil, {0}, {minusNought()}, {nan}, {nan, nan}, {1000}, {-1000}, {1000, -1000}, {-1000, 1000, nan}, {4, nan, 6.5, 4.5}, {nan, 4}, {4, nan}, {8, 9, nan, 9, 7, 5, 9, 4, 9, 9}, {5e-324, -5e-324},
		{math.Nextafter(1000, 0), math.Nextafter(-1000, 0)}, manyDegrees(1000, impl.MaxTrace), manyDegrees(-1000, impl.MaxTrace), manyDegrees(nan, impl.MaxTrace), append(manyDegrees(nan, impl.MaxTrace-1), 7), append([]float64{7}, manyDegrees(nan, impl.MaxTrace-1)...), manyDegrees(minusNought(), impl.MaxTrace),
	}
}

func TestP23WatchesByHand(t *testing.T) {
	nan, minus := math.NaN(), minusNought()
	for _, c := range []struct {
		trace []float64
		want  impl.Watch
	}{
		{[]float64{4, nan, 6.5, 4.5}, impl.Watch{Count: 3, Gaps: 1, Mean: 5, Least: 4, Most: 6.5}},
		{[]float64{7}, impl.Watch{Count: 1, Mean: 7, Least: 7, Most: 7}},
		{[]float64{nan, -7, nan}, impl.Watch{Count: 1, Gaps: 2, Mean: -7, Least: -7, Most: -7}},
		{[]float64{1, 2}, impl.Watch{Count: 2, Mean: 1.5, Least: 1, Most: 2}},
		{[]float64{2, 1}, impl.Watch{Count: 2, Mean: 1.5, Least: 1, Most: 2}},
		{[]float64{3, 1, 2, 1, 3}, impl.Watch{Count: 5, Mean: 2, Least: 1, Most: 3}},
		{[]float64{-1, -2, -3}, impl.Watch{Count: 3, Mean: -2, Least: -3, Most: -1}},
		{[]float64{1000, -1000}, impl.Watch{Count: 2, Mean: 0, Least: -1000, Most: 1000}},
		{[]float64{1, 1, 2}, impl.Watch{Count: 3, Mean: 4.0 / 3, Least: 1, Most: 2}},
		// the first of noughts stays, and they are added to +0
		{[]float64{minus}, impl.Watch{Count: 1, Mean: 0, Least: minus, Most: minus}},
		{[]float64{0}, impl.Watch{Count: 1, Mean: 0, Least: 0, Most: 0}},
		{[]float64{minus, minus}, impl.Watch{Count: 2, Mean: 0, Least: minus, Most: minus}},
		{[]float64{minus, 0}, impl.Watch{Count: 2, Mean: 0, Least: minus, Most: minus}},
		{[]float64{0, minus}, impl.Watch{Count: 2, Mean: 0, Least: 0, Most: 0}},
		{[]float64{nan, minus, nan, 0}, impl.Watch{Count: 2, Gaps: 2, Mean: 0, Least: minus, Most: minus}},
		{[]float64{1, minus, 0, 2}, impl.Watch{Count: 4, Mean: 0.75, Least: minus, Most: 2}},
		{[]float64{1, 0, minus, 2}, impl.Watch{Count: 4, Mean: 0.75, Least: 0, Most: 2}},
		{[]float64{-1, minus, 0, -2}, impl.Watch{Count: 4, Mean: -0.75, Least: -2, Most: minus}},
		{[]float64{-1, 0, minus, -2}, impl.Watch{Count: 4, Mean: -0.75, Least: -2, Most: 0}},
		{[]float64{1, -1}, impl.Watch{Count: 2, Mean: 0, Least: -1, Most: 1}},
		{[]float64{-1, 1}, impl.Watch{Count: 2, Mean: 0, Least: -1, Most: 1}},
		// a quotient that is too small for a number keeps its sign
		{[]float64{-5e-324, 0}, impl.Watch{Count: 2, Mean: minus, Least: -5e-324, Most: 0}},
		{[]float64{5e-324, 0}, impl.Watch{Count: 2, Mean: 0, Least: 0, Most: 5e-324}},
		{[]float64{-5e-324}, impl.Watch{Count: 1, Mean: -5e-324, Least: -5e-324, Most: -5e-324}},
		{[]float64{-5e-324, -5e-324, -5e-324, 0}, impl.Watch{Count: 4, Mean: -5e-324, Least: -5e-324, Most: 0}},
	} {
		wantWatch(t, c.trace, c.want, impl.OK)
		wantWatchByWords(t, c.trace)
	}
}

func TestP23WatchesAgainstAPlainReading(t *testing.T) {
	r := fixed()
	for range 3000 {
		wantWatchByWords(t, anyTrace(r, 12))
		wantWatchByWords(t, coldTrace(r, 1+r.IntN(40)))
	}
	for range 100 {
		wantWatchByWords(t, anyTrace(r, impl.MaxTrace))
	}
	for _, trace := range slices.Concat(rightTraces(), wrongTraces(), longTraces()) {
		wantWatchByWords(t, trace)
	}
}

func TestP23WatchesOfEverySmallTrace(t *testing.T) {
	for count := range 6 {
		eachTrace(count, []float64{minusNought(), 0, math.NaN(), 1, -1}, func(trace []float64) { wantWatchByWords(t, trace) })
		eachTrace(count, []float64{0.1, 0.2, 0.3, -0.3, 1e3}, func(trace []float64) { wantWatchByWords(t, trace) })
	}
}

func TestP23CountAndGapsAreAllAndATraceTurnedRoundHasTheSameBounds(t *testing.T) {
	r := fixed()
	for range 2000 {
		trace := anyTrace(r, 20)
		watch, code := impl.WatchOf(trace)
		if code != impl.OK {
			wantWatch(t, trace, impl.Watch{}, impl.ErrNone)
			continue
		}
		list := onesThere(trace)
		if watch.Count+watch.Gaps != len(trace) || watch.Count != len(list) {
			t.Errorf("WatchOf(%v): %d there and %d missing", trace, watch.Count, watch.Gaps)
		}
		if slices.Min(list) != watch.Least || slices.Max(list) != watch.Most {
			t.Errorf("WatchOf(%v): from %v to %v", trace, watch.Least, watch.Most)
		}
		around := slices.Clone(trace)
		slices.Reverse(around)
		other, _ := impl.WatchOf(around)
		if other.Count != watch.Count || other.Gaps != watch.Gaps || other.Least != watch.Least || other.Most != watch.Most {
			t.Errorf("WatchOf(%v): %+v; turned round %+v", trace, watch, other)
		}
		first := list[slices.Index(list, watch.Least)]
		last := list[len(list)-1-slices.Index(onesThere(around), watch.Least)]
		if !sameBits(watch.Least, first) || !sameBits(other.Least, last) {
			t.Errorf("WatchOf(%v): least %v, turned round %v: not the first one", trace, watch.Least, other.Least)
		}
		first, last = list[slices.Index(list, watch.Most)], list[len(list)-1-slices.Index(onesThere(around), watch.Most)]
		if !sameBits(watch.Most, first) || !sameBits(other.Most, last) {
			t.Errorf("WatchOf(%v): most %v, turned round %v: not the first one", trace, watch.Most, other.Most)
		}
	}
}

// The traces are such that a sum in another order, one of more precision, or another way to the mean would be another number.
func TestP23AMeanIsTheSumInOrderDividedByCount(t *testing.T) {
	tiny := 5e-14 // less than half of what stands between 1000 and the next number
	for _, c := range []struct {
		trace []float64
		mean  float64
	}{
		{[]float64{1000, tiny, tiny, tiny, tiny, tiny, tiny, tiny}, 125},
		{[]float64{tiny, tiny, tiny, tiny, tiny, tiny, tiny, 1000}, 125.00000000000004},
		{[]float64{1000, -1000, 1e-20, 0}, 2.5e-21},
		{[]float64{1e-20, 1000, -1000, 0}, 0},
		{[]float64{1000, 1e-20, -1000, 0}, 0},
		{[]float64{0.1, 0.2, 0.3}, 0.20000000000000004},
		{[]float64{0.3, 0.2, 0.1}, 0.19999999999999998},
	} {
		for place := range len(c.trace) + 1 {
			trace := slices.Insert(slices.Clone(c.trace), place, math.NaN())
			watch, code := impl.WatchOf(trace)
			if code != impl.OK || !sameBits(watch.Mean, c.mean) {
				t.Errorf("WatchOf(%v): mean %v, %d; want %v", trace, watch.Mean, code, c.mean)
			}
		}
		wantWatchByWords(t, c.trace)
	}
	differ := map[string]int{}
	r := fixed()
	for range 2000 {
		trace := anyTrace(r, 12)
		watch, code := impl.WatchOf(trace)
		if code != impl.OK {
			continue
		}
		for name, mean := range otherMeans(onesThere(trace)) {
			if !sameBits(mean, watch.Mean) {
				differ[name]++
			}
		}
	}
	for name := range otherMeans([]float64{1}) {
		if differ[name] == 0 {
			t.Errorf("no mean differs from one that is made %s", name)
		}
	}
}

// otherMeans are made as the document does not tell it.
func otherMeans(list []float64) map[string]float64 {
	count := float64(len(list))
	whole, running, backward := exact(0), 0.0, 0.0
	for place, number := range list {
		whole.Add(whole, exact(number))
		running += (number - running) / float64(place+1)
		backward += list[len(list)-1-place]
	}
	sum := 0.0
	for _, number := range list {
		sum += number
	}
	return map[string]float64{
		"from the end": backward / count, "step by step": running, "by the part of one": sum * (1 / count), "exactly": rounded(whole.Quo(whole, exact(count))),
	}
}

// Wherever what is missing stands, and whatever its bits are, all else is as if it were not there.
func TestP23WhatIsMissingIsNeverReckonedWith(t *testing.T) {
	r := fixed()
	for range 300 {
		list := onesThere(append(coldTrace(r, 8), anyTrace(r, 4)...))
		alone, aloneCode := impl.WatchOf(list)
		aloneAlarms, _ := impl.Alarms(list, 2, -1, 2)
		aloneWarm, _ := impl.WarmMinutes(list, 0.5, 1.7)
		eachCounts(len(list)+1, 0, 1, func(missing []int) {
			if r.IntN(1+len(list)) > 0 {
				return
			}
			trace, places := spread(r, list, missing)
			watch, code := impl.WatchOf(trace)
			if watch.Gaps != len(trace)-len(list) && code == impl.OK {
				t.Fatalf("WatchOf(%v): %d missing", trace, watch.Gaps)
			}
			watch.Gaps = alone.Gaps
			if code != aloneCode || !sameWatch(watch, alone) {
				t.Fatalf("WatchOf(%v): %+v, %d; without what is missing %+v, %d", trace, watch, code, alone, aloneCode)
			}
			var want []impl.Alarm
			for _, alarm := range aloneAlarms {
				want = append(want, impl.Alarm{From: places[alarm.From], To: places[alarm.To]})
			}
			wantAlarms(t, trace, 2, -1, 2, want, impl.OK)
			wantWarm(t, trace, 0.5, 1.7, aloneWarm, impl.OK)
		})
	}
}

// spread puts so many missing ones ahead of each number, and behind the last one; places tells where each number stands now, and the end.
func spread(r *rand.Rand, list []float64, missing []int) (trace []float64, places []int) {
	for place, count := range missing {
		for range count {
			trace = append(trace, gaps()[r.IntN(len(gaps()))])
		}
		if place < len(list) {
			places = append(places, len(trace))
			trace = append(trace, list[place])
		}
	}
	return trace, append(places, len(trace))
}

func TestP23TracesAtTheirLimits(t *testing.T) {
	nan := math.NaN()
	for _, number := range append([]float64{1000, -1000, 0, minusNought(), 1, 5e-324, math.Nextafter(1000, 0), math.Nextafter(-1000, 0)}, gaps()...) {
		for _, count := range []int{1, 2, impl.MaxTrace - 1, impl.MaxTrace} {
			trace := manyDegrees(number, count)
			wantWatchByWords(t, trace)
			wantAlarmsByWords(t, trace, 999, -999, count)
			wantWarmByWords(t, trace, -1000, 4)
			if code := traceCodeByWords(trace); code != impl.OK {
				t.Errorf("%d of %v have the code %d", count, number, code)
			}
		}
		for _, count := range []int{impl.MaxTrace + 1, impl.MaxTrace + 2, impl.MaxList - 1, impl.MaxList} {
			wantNoTrace(t, manyDegrees(number, count), impl.ErrBad)
		}
		wantNoTrace(t, manyDegrees(number, impl.MaxList+1), impl.ErrLong)
	}
	for _, trace := range wrongTraces() {
		wantNoTrace(t, trace, impl.ErrBad)
	}
	for _, trace := range longTraces() {
		wantNoTrace(t, trace, impl.ErrLong)
	}
	for count := range impl.MaxTrace + 1 {
		wantWatch(t, manyDegrees(nan, count), impl.Watch{}, impl.ErrNone)
		wantAlarms(t, manyDegrees(nan, count), 0, 0, 1, nil, impl.OK)
		wantWarm(t, manyDegrees(nan, count), 0, 1, 0, impl.OK)
		for _, place := range []int{0, count / 2, count - 1} {
			if count > 0 {
				trace := manyDegrees(nan, count)
				trace[place] = 7
				wantWatch(t, trace, impl.Watch{Count: 1, Gaps: count - 1, Mean: 7, Least: 7, Most: 7}, impl.OK)
				wantAlarms(t, trace, 6, 0, 1, []impl.Alarm{{From: place, To: count}}, impl.OK)
				wantWarm(t, trace, 6.5, 3, 1.5, impl.OK)
			}
		}
	}
}

func wantNoTrace(t *testing.T, trace []float64, code int) {
	t.Helper()
	wantWatch(t, trace, impl.Watch{}, code)
	wantAlarms(t, trace, 5, 0, 1, nil, code)
	wantWarm(t, trace, 5, 1.5, 0, code)
}

func TestP23AlarmsByHand(t *testing.T) {
	nan := math.NaN()
	for _, c := range []struct {
		trace     []float64
		high, low float64
		hold      int
		want      []impl.Alarm
	}{
		{[]float64{8, 9, nan, 9, 7, 5, 9, 4, 9, 9}, 7.5, 5, 2, alarmsAt(1, 5, 9, 10)},
		{nil, 5, 5, 1, nil},
		{[]float64{6}, 5, 5, 1, alarmsAt(0, 1)},
		{[]float64{5}, 5, 5, 1, nil},
		{[]float64{6, 5}, 5, 5, 1, alarmsAt(0, 1)},
		{[]float64{6, 5, 6}, 5, 5, 1, alarmsAt(0, 1, 2, 3)},
		{[]float64{6, 5, 6, 5}, 5, 4, 1, alarmsAt(0, 4)},
		{[]float64{6, 6, 6, 6}, 5, 4, 1, alarmsAt(0, 4)},
		{[]float64{6, 6, 6, 6}, 5, 4, 4, alarmsAt(3, 4)},
		{[]float64{6, 6, 6, 6}, 5, 4, 5, nil},
		{[]float64{6, 6, 5, 6, 6}, 5, 4, 3, nil},                     // one just at high is not above it
		{[]float64{6, nan, 6, nan, nan, 6}, 5, 4, 3, alarmsAt(5, 6)}, // those between are passed over
		{[]float64{nan, 6, 6, nan}, 5, 4, 2, alarmsAt(2, 4)},
		{[]float64{6, nan, 4, nan, 6}, 5, 4, 1, alarmsAt(0, 2, 4, 5)},
		{[]float64{6, nan}, 5, 4, 1, alarmsAt(0, 2)},
		{[]float64{nan, nan, nan}, 5, 4, 1, nil},
		{[]float64{6, 6, 4, 6, 6, 4}, 5, 4, 2, alarmsAt(1, 2, 4, 5)},
		{[]float64{6, 6, 4, 6, 4, 6, 6}, 5, 4, 2, alarmsAt(1, 2, 6, 7)}, // counting begins anew
		{[]float64{6, 6, 6, 4, 6, 6}, 5, 4, 2, alarmsAt(1, 3, 5, 6)},
		{[]float64{6, 6, 6, 4, 6, 5, 6}, 5, 4, 2, alarmsAt(1, 3)}, // those while it was on are not counted
		{[]float64{6, 3, 6}, 5, 4, 1, alarmsAt(0, 1, 2, 3)},
		{[]float64{1000, -1000, 1000}, 999, -1000, 1, alarmsAt(0, 1, 2, 3)},
		{[]float64{1000}, 1000, 1000, 1, nil},
		{[]float64{1000}, 1000, -1000, 1, nil},
		{[]float64{-1000, -999}, -1000, -1000, 1, alarmsAt(1, 2)},
		{[]float64{1, minusNought(), 1}, 0, 0, 1, alarmsAt(0, 1, 2, 3)},
		{[]float64{0, minusNought()}, minusNought(), minusNought(), 1, nil},
		{[]float64{1, 0, 1}, minusNought(), minusNought(), 1, alarmsAt(0, 1, 2, 3)},
		{[]float64{5e-324, 0}, 0, minusNought(), 1, alarmsAt(0, 1)},
	} {
		wantAlarms(t, c.trace, c.high, c.low, c.hold, c.want, impl.OK)
		wantAlarmsByWords(t, c.trace, c.high, c.low, c.hold)
	}
}

func TestP23AlarmsAgainstAPlainReading(t *testing.T) {
	r := fixed()
	for range 5000 {
		trace := coldTrace(r, r.IntN(40))
		low := float64(r.IntN(8) - 4)
		high := low + float64(r.IntN(5))/2
		wantAlarmsByWords(t, trace, high, low, 1+r.IntN(5))
		wantAlarmsByWords(t, anyTrace(r, 20), anyDegree(r), anyDegree(r), 1+r.IntN(3))
	}
	for _, trace := range slices.Concat(rightTraces(), wrongTraces(), longTraces()) {
		for _, hold := range []int{1, 2, 3, impl.MaxTrace - 1, impl.MaxTrace} {
			wantAlarmsByWords(t, trace, 5, 4, hold)
			wantAlarmsByWords(t, trace, -1000, -1000, hold)
		}
	}
}

func TestP23AlarmsOfEverySmallTrace(t *testing.T) {
	for count := range 7 {
		eachTrace(count, []float64{9, 7, 6, 5, 4, math.NaN()}, func(trace []float64) {
			for hold := 1; hold <= 4; hold++ {
				wantAlarmsByWords(t, trace, 7, 5, hold)
			}
			if count < 6 {
				wantAlarmsByWords(t, trace, 6, 6, 1)
				wantAlarmsByWords(t, trace, 6, 6, 2)
				wantAlarmsByWords(t, trace, 8, 4, 1)
			}
		})
	}
}

// wantAlarmsHold looks at the numbers of each alarm: the hold ones up to From, those within, and where it ends.
func wantAlarmsHold(t *testing.T, trace []float64, high, low float64, hold int, alarms []impl.Alarm) {
	t.Helper()
	free := 0 // the first place behind the alarm ahead
	for _, alarm := range alarms {
		if alarm.From < free || alarm.From >= alarm.To || alarm.To > len(trace) || !(trace[alarm.From] > high) {
			t.Errorf("Alarms(%v, %v, %v, %d): %v", trace, high, low, hold, alarms)
			return
		}
		run := onesThere(trace[free : alarm.From+1])
		if len(run) < hold || slices.Min(run[len(run)-hold:]) <= high {
			t.Errorf("Alarms(%v, %v, %v, %d): %v goes on too early", trace, high, low, hold, alarm)
		}
		if within := onesThere(trace[alarm.From:alarm.To]); slices.Min(within) <= low {
			t.Errorf("Alarms(%v, %v, %v, %d): %v goes off too late", trace, high, low, hold, alarm)
		}
		if alarm.To < len(trace) && !(trace[alarm.To] <= low) {
			t.Errorf("Alarms(%v, %v, %v, %d): %v goes off too early", trace, high, low, hold, alarm)
		}
		free = alarm.To
	}
}

func TestP23AlarmsGoOnAndOffAsTold(t *testing.T) {
	r := fixed()
	for range 3000 {
		trace := coldTrace(r, r.IntN(60))
		low := float64(r.IntN(6) - 3)
		high := low + float64(r.IntN(4))
		ahead := math.MaxInt
		for hold := 1; hold <= 6; hold++ {
			alarms, code := impl.Alarms(trace, high, low, hold)
			if code != impl.OK || len(alarms) > ahead {
				t.Errorf("Alarms(%v, %v, %v, %d): %v, %d; with a shorter hold %d", trace, high, low, hold, alarms, code, ahead)
			}
			wantAlarmsHold(t, trace, high, low, hold, alarms)
			ahead = len(alarms)
		}
	}
}

func TestP23HoldAtItsLimits(t *testing.T) {
	nan := math.NaN()
	full := manyDegrees(9, impl.MaxTrace)
	wantAlarms(t, full, 5, 4, impl.MaxTrace, alarmsAt(impl.MaxTrace-1, impl.MaxTrace), impl.OK)
	wantAlarms(t, full[1:], 5, 4, impl.MaxTrace, nil, impl.OK)
	wantAlarms(t, full, 5, 4, impl.MaxTrace-1, alarmsAt(impl.MaxTrace-2, impl.MaxTrace), impl.OK)
	wantAlarms(t, full, 5, 4, 1, alarmsAt(0, impl.MaxTrace), impl.OK)
	for place := range full {
		trace := slices.Clone(full)
		trace[place] = nan
		wantAlarms(t, trace, 5, 4, impl.MaxTrace, nil, impl.OK)
		wantAlarmsByWords(t, trace, 5, 4, impl.MaxTrace-1)
		trace[place] = 5
		wantAlarmsByWords(t, trace, 5, 4, impl.MaxTrace-1)
		wantAlarmsByWords(t, trace, 5, 5, 10)
	}
	for _, trace := range rightTraces() {
		for _, hold := range append([]int{impl.MaxTrace + 1, 0, -1, -impl.MaxTrace, impl.MaxList}, oddNumbers()...) {
			if hold < 1 || hold > impl.MaxTrace {
				wantAlarms(t, trace, 5, 4, hold, nil, impl.ErrBad)
			}
		}
	}
	var wild []float64
	for len(wild) < impl.MaxTrace {
		wild = append(wild, 9, 1)
	}
	alarms, code := impl.Alarms(wild, 5, 4, 1)
	if code != impl.OK || len(alarms) != impl.MaxTrace/2 || alarms[99] != (impl.Alarm{From: 198, To: 199}) {
		t.Errorf("Alarms of 9, 1, 9, 1, ..: %v, %d", alarms, code)
	}
}

func TestP23HighLowAndLimitAtTheirLimits(t *testing.T) {
	for _, trace := range append(rightTraces(), []float64{1000, 999, -999, -1000, math.NaN(), 1000}) {
		for _, number := range []float64{1000, -1000, 0, minusNought(), 5e-324, math.Nextafter(1000, 0)} {
			wantAlarmsByWords(t, trace, number, number, 1)
			wantAlarmsByWords(t, trace, 1000, number, 1)
			wantAlarmsByWords(t, trace, number, -1000, 1)
			wantWarmByWords(t, trace, number, 1.5)
			if _, code := impl.Alarms(trace, number, number, 1); code != impl.OK {
				t.Errorf("Alarms of high and low %v: %d", number, code)
			}
			if _, code := impl.WarmMinutes(trace, number, 1.5); code != impl.OK {
				t.Errorf("WarmMinutes of the limit %v: %d", number, code)
			}
		}
		for _, number := range append(beyond(1000), gaps()...) {
			wantAlarms(t, trace, number, -1000, 1, nil, impl.ErrBad)
			wantAlarms(t, trace, 1000, number, 1, nil, impl.ErrBad)
			wantAlarms(t, trace, number, number, 1, nil, impl.ErrBad)
			wantWarm(t, trace, number, 1.5, 0, impl.ErrBad)
		}
		for _, high := range []float64{-1000, -1, 0, minusNought(), 5, math.Nextafter(1000, 0)} {
			wantAlarms(t, trace, high, math.Nextafter(high, 2000), 1, nil, impl.ErrBad)
			wantAlarms(t, trace, high, 1000, 1, nil, impl.ErrBad)
			wantAlarmsByWords(t, trace, math.Nextafter(high, 2000), high, 1)
		}
	}
	wantAlarms(t, []float64{1}, 0, minusNought(), 1, alarmsAt(0, 1), impl.OK)
	wantAlarms(t, []float64{1}, minusNought(), 0, 1, alarmsAt(0, 1), impl.OK)
}

func TestP23ANumberJustAtHighOrLow(t *testing.T) {
	for _, at := range []float64{5, -5, 0.1, 0, minusNought(), 5e-324, 999, -999} {
		up, down := math.Nextafter(at, 1000), math.Nextafter(at, -1000)
		for _, hold := range []int{1, 3} {
			wantAlarms(t, manyDegrees(at, 4), at, -1000, hold, nil, impl.OK)
			wantAlarms(t, manyDegrees(down, 4), at, -1000, hold, nil, impl.OK)
			wantAlarms(t, manyDegrees(up, 4), at, -1000, hold, alarmsAt(hold-1, 4), impl.OK)
		}
		wantAlarms(t, []float64{1000, at}, 999.5, at, 1, alarmsAt(0, 1), impl.OK)
		wantAlarms(t, []float64{1000, down}, 999.5, at, 1, alarmsAt(0, 1), impl.OK)
		wantAlarms(t, []float64{1000, up}, 999.5, at, 1, alarmsAt(0, 2), impl.OK)
		wantWarm(t, []float64{at, down, -1000}, at, 4, 0, impl.OK)
		wantWarmByWords(t, []float64{at, up, down}, at, 4)
	}
}

func TestP23WarmMinutesByHand(t *testing.T) {
	nan := math.NaN()
	for _, c := range []struct {
		trace      []float64
		limit      float64
		base, want float32
	}{
		{[]float64{8, 6, nan, 9}, 7, 1.5, 4.5}, {nil, 7, 1.5, 0}, {[]float64{nan}, 7, 1.5, 0}, {[]float64{7, 6, -1000}, 7, 4, 0}, {[]float64{8}, 7, 1, 1}, {[]float64{8}, 7, 4, 4}, {[]float64{1000}, -1000, 4, 8000},
		{manyDegrees(1000, impl.MaxTrace), -1000, 4, 1600000}, {[]float64{minusNought(), 0}, 0, 1, 0}, {[]float64{0}, minusNought(), 1, 0}, {[]float64{5e-324}, 0, 4, 0}, {[]float64{1e-45}, 0, 1, 1e-45}, {[]float64{-1}, -1.5, 2, 1},
		{[]float64{0.1}, 0, 1, 0.1}, {[]float64{0.1, 0.1, 0.1}, 0, 1, 0.3}, {[]float64{1000, 1e-7}, 0, 1, 1000}, {[]float64{1e-7, 1000}, 0, 1, 1000},
	} {
		wantWarm(t, c.trace, c.limit, c.base, c.want, impl.OK)
		wantWarmByWords(t, c.trace, c.limit, c.base)
	}
}

func anyBase(r *rand.Rand) float32 {
	if r.IntN(4) == 0 {
		return []float32{1, 1.5, 2, 4}[r.IntN(4)]
	}
	return 1 + 3*r.Float32()
}

func TestP23WarmMinutesAgainstAPlainReading(t *testing.T) {
	r := fixed()
	for range 3000 {
		trace := anyTrace(r, 20)
		wantWarmByWords(t, trace, anyDegree(r), anyBase(r))
		wantWarmByWords(t, coldTrace(r, r.IntN(20)), float64(r.IntN(30))/10, anyBase(r))
	}
	for range 60 {
		wantWarmByWords(t, anyTrace(r, impl.MaxTrace), -500, anyBase(r))
	}
	for count := range 6 {
		eachTrace(count, []float64{0.1, 0.7, 1.3, 333.3, math.NaN()}, func(trace []float64) {
			wantWarmByWords(t, trace, 0.1, 1.1)
			wantWarmByWords(t, trace, 0.3, 2.7)
		})
	}
	for _, trace := range slices.Concat(rightTraces(), wrongTraces(), longTraces()) {
		wantWarmByWords(t, trace, 3.3, 1.7)
		wantWarmByWords(t, trace, -1000, 4)
	}
}

func TestP23ATraceThatIsNeverAboveTheLimitHasNoWarmMinutes(t *testing.T) {
	r := fixed()
	for range 2000 {
		trace := anyTrace(r, 20)
		limit := 1000.0
		if watch, code := impl.WatchOf(trace); code == impl.OK {
			limit = watch.Most
		}
		wantWarm(t, trace, limit, anyBase(r), 0, impl.OK)
	}
}

// otherWarmths are made as the document does not tell it.
func otherWarmths(trace []float64, limit float64, base float32) map[string]float32 {
	var fused, early, late, backward, differences float32
	long := 0.0
	list := slices.DeleteFunc(onesThere(trace), func(number float64) bool { return number <= limit })
	for place, number := range list {
		over := float32(number - limit)
		fused = rounded32(exact(0).Add(exact(float64(fused)), exact(0).Mul(exact(float64(over)), exact(float64(base)))))
		early += float32((float32(number) - float32(limit)) * base)
		late += float32((number - limit) * float64(base))
		long += float64(float32(over * base))
		backward += float32(float32(list[len(list)-1-place]-limit) * base)
		differences += over
	}
	return map[string]float32{
		"with the product and the sum in one": fused, "of numbers made float32 ahead": early, "of a product of float64": late, "in a sum of float64": float32(long), "from the end": backward, "by the sum of all differences": float32(differences * base),
	}
}

func TestP23WarmMinutesAreRoundedAsTold(t *testing.T) {
	r := fixed()
	differ := map[string]int{}
	for range 3000 {
		trace, limit, base := anyTrace(r, 12), float64(r.IntN(200)-100)/10, anyBase(r)
		wantWarmByWords(t, trace, limit, base)
		warm, _ := impl.WarmMinutes(trace, limit, base)
		for name, other := range otherWarmths(trace, limit, base) {
			if other != warm {
				differ[name]++
			}
		}
	}
	for name := range otherWarmths(nil, 0, 1) {
		if differ[name] == 0 {
			t.Errorf("no warm minutes differ from those %s", name)
		}
	}
	small := manyDegrees(0.00003, 100) // four times each is less than half of what stands between 4000 and the next float32
	wantWarm(t, append([]float64{1000}, small...), 0, 4, 4000, impl.OK)
	wantWarm(t, append(slices.Clone(small), 1000), 0, 4, 4000.012, impl.OK)
	wantWarmByWords(t, append(slices.Clone(small), 1000), 0, 4)
}

func TestP23BaseAtItsLimits(t *testing.T) {
	inf := float32(math.Inf(1))
	for _, trace := range append(rightTraces(), []float64{8, 6, math.NaN(), 9}) {
		for _, base := range []float32{1, 4, math.Nextafter32(1, 2), math.Nextafter32(4, 3), 2.5} {
			wantWarmByWords(t, trace, 6.7, base)
			if _, code := impl.WarmMinutes(trace, 6.7, base); code != impl.OK {
				t.Errorf("WarmMinutes of the base %v: %d", base, code)
			}
		}
		for _, base := range []float32{math.Nextafter32(1, 0), math.Nextafter32(4, 5), 0, float32(minusNought()), -1, -4, 5, 1e-45, math.MaxFloat32, -math.MaxFloat32, inf, -inf, float32(math.NaN()), math.Float32frombits(0x7f800001), math.Float32frombits(0xffffffff)} {
			wantWarm(t, trace, 6.7, base, 0, impl.ErrBad)
		}
	}
}

// Of what is too long, wrong and missing at once, what is too long comes first, and what is missing last.
func TestP23WhichFaultOfATraceComesFirst(t *testing.T) {
	nan := math.NaN()
	for _, trace := range longTraces() {
		wantAlarms(t, trace, nan, 0, 1, nil, impl.ErrLong)
		wantAlarms(t, trace, 0, 1001, 1, nil, impl.ErrLong)
		wantAlarms(t, trace, 0, 1, 1, nil, impl.ErrLong)
		wantAlarms(t, trace, 0, 0, 0, nil, impl.ErrLong)
		wantWarm(t, trace, nan, 1, 0, impl.ErrLong)
		wantWarm(t, trace, 0, 5, 0, impl.ErrLong)
	}
	for _, trace := range wrongTraces() {
		wantAlarms(t, trace, nan, 0, 1, nil, impl.ErrBad)
		wantAlarms(t, trace, 0, 0, 0, nil, impl.ErrBad)
		wantWarm(t, trace, nan, 5, 0, impl.ErrBad)
	}
	wantWatch(t, manyDegrees(nan, impl.MaxTrace+1), impl.Watch{}, impl.ErrBad)
	wantWatch(t, manyDegrees(nan, impl.MaxList), impl.Watch{}, impl.ErrBad)
	wantWatch(t, manyDegrees(nan, impl.MaxList+1), impl.Watch{}, impl.ErrLong)
	wantWatch(t, []float64{nan, math.Inf(1)}, impl.Watch{}, impl.ErrBad)
	wantWatch(t, []float64{nan, nan}, impl.Watch{}, impl.ErrNone)
	wantWatch(t, nil, impl.Watch{}, impl.ErrNone)
}

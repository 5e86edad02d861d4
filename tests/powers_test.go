package tests

import (
	"fmt"
	"math"
	"math/rand/v2"
	"slices"
	"testing"

	"loop.example/g00067/impl"
)

func powerAt(re, im float64) impl.Power { return impl.Power{Re: re, Im: im} }

func samePower(a, b impl.Power) bool { return sameBits(a.Re, b.Re) && sameBits(a.Im, b.Im) }

func noPower(p impl.Power) bool { return samePower(p, impl.Power{}) }

// powersFault tells ErrLong ahead of ErrBad, as one list does.
func powersFault(lists ...[]impl.Power) int {
	for _, powers := range lists {
		if len(powers) > 4096 {
			return impl.ErrLong
		}
	}
	for _, powers := range lists {
		for _, p := range powers {
			for _, number := range []float64{p.Re, p.Im} {
				if isMissing(number) || math.Abs(number) > 1000000 {
					return impl.ErrBad
				}
			}
		}
		if len(powers) > 12 {
			return impl.ErrBad
		}
	}
	return impl.OK
}

func powerSumExactly(a, b impl.Power) impl.Power {
	return powerAt(sumExactly(a.Re, b.Re), sumExactly(a.Im, b.Im))
}

func productExactly(a, b impl.Power) impl.Power {
	return powerAt(lessExactly(timesExactly(a.Re, b.Re), timesExactly(a.Im, b.Im)), sumExactly(timesExactly(a.Re, b.Im), timesExactly(a.Im, b.Re)))
}

func powerByWords(volts, amps []impl.Power) (impl.Power, int) {
	if code := powersFault(volts, amps); code != impl.OK {
		return impl.Power{}, code
	}
	if len(volts) != len(amps) {
		return impl.Power{}, impl.ErrForm
	}
	sum := powerAt(0, 0)
	for place, amp := range amps {
		sum = powerSumExactly(sum, productExactly(volts[place], powerAt(amp.Re, -amp.Im)))
	}
	return sum, impl.OK
}

func bridgeByWords(parts []impl.Power) (impl.Power, int) {
	if code := powersFault(parts); code != impl.OK {
		return impl.Power{}, code
	}
	sum := powerAt(0, 0)
	for _, part := range parts {
		n := sumExactly(timesExactly(part.Re, part.Re), timesExactly(part.Im, part.Im))
		if n == 0 {
			return impl.Power{}, impl.ErrZero
		}
		sum = powerSumExactly(sum, powerAt(partExactly(part.Re, n), partExactly(-part.Im, n)))
	}
	return sum, impl.OK
}

func wantPower(t *testing.T, volts, amps []impl.Power, want impl.Power, code int) {
	t.Helper()
	if told, c := impl.PowerOf(volts, amps); c != code || !samePower(told, want) {
		t.Errorf("PowerOf of %d and %d, %.300s, %.300s: %+v, %d; want %+v, %d", len(volts), len(amps), fmt.Sprint(volts), fmt.Sprint(amps), told, c, want, code)
	}
}

func wantPowerByWords(t *testing.T, volts, amps []impl.Power) {
	t.Helper()
	want, code := powerByWords(volts, amps)
	wantPower(t, volts, amps, want, code)
}

func wantBridge(t *testing.T, parts []impl.Power, want impl.Power, code int) {
	t.Helper()
	if told, c := impl.Bridge(parts); c != code || !samePower(told, want) {
		t.Errorf("Bridge of %d, %.300s: %+v, %d; want %+v, %d", len(parts), fmt.Sprint(parts), told, c, want, code)
	}
}

func wantBridgeByWords(t *testing.T, parts []impl.Power) {
	t.Helper()
	want, code := bridgeByWords(parts)
	wantBridge(t, parts, want, code)
}

// anyPart is a whole number, one of noughts, of the bounds and of very small ones, or one of any size.
func anyPart(r *rand.Rand) float64 {
	switch r.IntN(5) {
	case 0:
		return float64(r.IntN(11) - 5)
	case 1:
		return []float64{0, minusNought(), 5e-324, -5e-324, 1e-200, -3e-170, 1e6, -1e6, 1e-160, 2e-162}[r.IntN(10)]
	case 2:
		return math.Ldexp(2*r.Float64()-1, -r.IntN(60))
	case 3:
		return 10 * (2*r.Float64() - 1)
	}
	return 1e6 * (2*r.Float64() - 1)
}

func anyPowers(r *rand.Rand, count int) []impl.Power {
	var powers []impl.Power
	for range count {
		powers = append(powers, powerAt(anyPart(r), anyPart(r)))
	}
	return powers
}

// plainPowers have parts of like sizes, or a second one that is small beside the first; none of them is nought.
func plainPowers(r *rand.Rand, count int) []impl.Power {
	var powers []impl.Power
	for range count {
		part := powerAt(1+r.Float64(), 2*r.Float64()-1)
		if r.IntN(4) == 0 {
			part = powerAt(230*part.Re, 16*part.Im)
		}
		powers = append(powers, part)
	}
	return powers
}

func wrongParts() []float64 { return append(beyond(1000000), gaps()...) }

func wrongPowers() [][]impl.Power {
	lists := [][]impl.Power{manyPowers(impl.MaxPhases + 1), manyPowers(impl.MaxList)}
	for _, number := range wrongParts() {
		for _, wrong := range []impl.Power{powerAt(number, 1), powerAt(1, number), powerAt(number, number)} {
			lists = append(lists, []impl.Power{wrong}, append(manyPowers(2), wrong), append([]impl.Power{wrong}, manyPowers(2)...), append(manyPowers(impl.MaxPhases-1), wrong))
		}
	}
	return lists
}

func manyPowers(count int) []impl.Power { return slices.Repeat([]impl.Power{powerAt(3, 4)}, count) }

func rightPowers() [][]impl.Power {
	next := math.Nextafter(1e6, 0)
	return [][]impl.Power{
		nil, {powerAt(3, 4)}, {powerAt(0, 0)}, {powerAt(minusNought(), minusNought())}, {powerAt(2, 0), powerAt(0, 2)}, {powerAt(1e6, 1e6)}, {powerAt(-1e6, 1e6), powerAt(1e6, -1e6)}, {powerAt(next, -next)}, {powerAt(5e-324, 1)}, {powerAt(1e-200, -1e-200)}, manyPowers(impl.MaxPhases), slices.Repeat([]impl.Power{powerAt(1e6, -1e6)}, impl.MaxPhases), slices.Repeat([]impl.Power{powerAt(-1e6, -1e6)}, impl.MaxPhases),
	}
}

func TestP23PowersByHand(t *testing.T) {
	minus := minusNought()
	for _, c := range []struct {
		volts, amps []impl.Power
		want        impl.Power
	}{
		{nil, nil, powerAt(0, 0)},
		{[]impl.Power{powerAt(3, 4)}, []impl.Power{powerAt(1, 2)}, powerAt(11, -2)},
		{[]impl.Power{powerAt(1, 2)}, []impl.Power{powerAt(3, 4)}, powerAt(11, 2)},
		{[]impl.Power{powerAt(1, 0)}, []impl.Power{powerAt(0, 1)}, powerAt(0, -1)},
		{[]impl.Power{powerAt(0, 1)}, []impl.Power{powerAt(1, 0)}, powerAt(0, 1)},
		{[]impl.Power{powerAt(0, 1)}, []impl.Power{powerAt(0, 1)}, powerAt(1, 0)},
		{[]impl.Power{powerAt(0, 1)}, []impl.Power{powerAt(0, -1)}, powerAt(-1, 0)},
		{[]impl.Power{powerAt(3, 4), powerAt(1, 0)}, []impl.Power{powerAt(1, 2), powerAt(5, 7)}, powerAt(16, -9)},
		{[]impl.Power{powerAt(3, 4), powerAt(3, 4)}, []impl.Power{powerAt(1, 2), powerAt(-1, -2)}, powerAt(0, 0)},
		{[]impl.Power{powerAt(1e6, 1e6)}, []impl.Power{powerAt(1e6, 1e6)}, powerAt(2e12, 0)},
		{slices.Repeat([]impl.Power{powerAt(1e6, 1e6)}, impl.MaxPhases), slices.Repeat([]impl.Power{powerAt(-1e6, 1e6)}, impl.MaxPhases), powerAt(0, -24e12)},
		// what is added to +0 is never -0
		{[]impl.Power{powerAt(0, 0)}, []impl.Power{powerAt(0, 0)}, powerAt(0, 0)},
		{[]impl.Power{powerAt(minus, minus)}, []impl.Power{powerAt(0, 0)}, powerAt(0, 0)},
		{[]impl.Power{powerAt(minus, 0)}, []impl.Power{powerAt(1, 1)}, powerAt(0, 0)},
		{[]impl.Power{powerAt(-1, 0)}, []impl.Power{powerAt(0, 0)}, powerAt(0, 0)},
		{[]impl.Power{powerAt(-1e-200, 0)}, []impl.Power{powerAt(1e-200, 0)}, powerAt(0, 0)},
		{[]impl.Power{powerAt(-1e-160, 0)}, []impl.Power{powerAt(1e-162, 0)}, powerAt(-1e-322, 0)},
	} {
		wantPower(t, c.volts, c.amps, c.want, impl.OK)
		wantPowerByWords(t, c.volts, c.amps)
	}
}

func TestP23PowersAgainstAPlainReading(t *testing.T) {
	r := fixed()
	for range 3000 {
		count := r.IntN(impl.MaxPhases + 1)
		wantPowerByWords(t, anyPowers(r, count), anyPowers(r, count))
		wantPowerByWords(t, plainPowers(r, count), plainPowers(r, count))
		wantPowerByWords(t, anyPowers(r, r.IntN(3)), anyPowers(r, r.IntN(3)))
	}
	for _, volts := range slices.Concat(rightPowers(), wrongPowers()) {
		for _, amps := range rightPowers() {
			wantPowerByWords(t, volts, amps)
			wantPowerByWords(t, amps, volts)
		}
	}
}

// The signs of all noughts go in; none of them can be seen in what comes out.
func TestP23PowersOfEverySignOfNoughts(t *testing.T) {
	numbers := []float64{0, minusNought(), 1, -1, 5e-324, -5e-324}
	eachTrace(4, numbers, func(parts []float64) {
		volt, amp := powerAt(parts[0], parts[1]), powerAt(parts[2], parts[3])
		wantPowerByWords(t, []impl.Power{volt}, []impl.Power{amp})
		wantPowerByWords(t, []impl.Power{volt, amp}, []impl.Power{amp, volt})
		told, code := impl.PowerOf([]impl.Power{volt}, []impl.Power{amp})
		if code != impl.OK || sameBits(told.Re, minusNought()) || sameBits(told.Im, minusNought()) {
			t.Errorf("PowerOf(%v, %v): %v, %d", volt, amp, told, code)
		}
		wantBridgeByWords(t, []impl.Power{volt})
		wantBridgeByWords(t, []impl.Power{volt, amp})
		wantBridgeByWords(t, []impl.Power{powerAt(1, 1), volt})
	})
}

func TestP23PowersOfVoltsWithThemselvesAndExchanged(t *testing.T) {
	r := fixed()
	for range 3000 {
		count := r.IntN(impl.MaxPhases + 1)
		volts, amps := anyPowers(r, count), anyPowers(r, count)
		if r.IntN(2) > 0 {
			volts, amps = plainPowers(r, count), plainPowers(r, count)
		}
		own, code := impl.PowerOf(volts, volts)
		if code != impl.OK || !sameBits(own.Im, 0) || own.Re < 0 || sameBits(own.Re, minusNought()) {
			t.Errorf("PowerOf(%v) with itself: %v, %d", volts, own, code)
		}
		there, _ := impl.PowerOf(volts, amps)
		back, _ := impl.PowerOf(amps, volts)
		if !sameBits(there.Re, back.Re) || there.Im != -back.Im {
			t.Errorf("PowerOf(%v, %v): %v; exchanged %v", volts, amps, there, back)
		}
	}
}

// otherPowers are made as the document does not tell it.
func otherPowers(volts, amps []impl.Power) map[string]impl.Power {
	var fused, fusedSecond, long, backward, each, own impl.Power
	exactRe, exactIm := exact(0), exact(0)
	for place, v := range volts {
		a := powerAt(amps[place].Re, -amps[place].Im)
		fused = powerSumExactly(fused, powerAt(math.FMA(v.Re, a.Re, -float64(v.Im*a.Im)), math.FMA(v.Re, a.Im, float64(v.Im*a.Re))))
		fusedSecond = powerSumExactly(fusedSecond, powerAt(math.FMA(-v.Im, a.Im, float64(v.Re*a.Re)), math.FMA(v.Im, a.Re, float64(v.Re*a.Im))))
		re := exact(0).Sub(exact(0).Mul(exact(v.Re), exact(a.Re)), exact(0).Mul(exact(v.Im), exact(a.Im)))
		im := exact(0).Add(exact(0).Mul(exact(v.Re), exact(a.Im)), exact(0).Mul(exact(v.Im), exact(a.Re)))
		long = powerSumExactly(long, powerAt(rounded(re), rounded(im)))
		exactRe.Add(exactRe, re)
		exactIm.Add(exactIm, im)
		last := len(volts) - 1 - place
		backward = powerSumExactly(backward, productExactly(volts[last], powerAt(amps[last].Re, -amps[last].Im)))
		each.Re = sumExactly(sumExactly(each.Re, timesExactly(v.Re, a.Re)), -timesExactly(v.Im, a.Im))
		each.Im = sumExactly(sumExactly(each.Im, timesExactly(v.Re, a.Im)), timesExactly(v.Im, a.Re))
		own = powerSumExactly(own, productExactly(v, amps[place]))
	}
	return map[string]impl.Power{
		"with the first product and a sum in one": fused, "with the second product and a sum in one": fusedSecond, "with products that are not rounded": long, "that is rounded but once": powerAt(rounded(exactRe), rounded(exactIm)),
		"from the end": backward, "product by product": each, "of amps as they are": own,
	}
}

func TestP23PowersAreRoundedAsTold(t *testing.T) {
	r := fixed()
	differRe, differIm := map[string]int{}, map[string]int{}
	for range 500 {
		count := 1 + r.IntN(impl.MaxPhases)
		volts, amps := plainPowers(r, count), plainPowers(r, count)
		wantPowerByWords(t, volts, amps)
		power, _ := impl.PowerOf(volts, amps)
		for name, other := range otherPowers(volts, amps) {
			if !sameBits(other.Re, power.Re) {
				differRe[name]++
			}
			if !sameBits(other.Im, power.Im) {
				differIm[name]++
			}
		}
	}
	for name := range otherPowers(nil, nil) {
		if differRe[name] == 0 || differIm[name] == 0 {
			t.Errorf("no power differs from one %s", name)
		}
	}
}

// Each part that is small stands alone against one that is so great that it would be lost behind it.
func TestP23PowersAreAddedInTheirOrder(t *testing.T) {
	great, less, small := powerAt(1e6, 0), powerAt(-1e6, 0), powerAt(1e-6, 1e-6)
	amps := []impl.Power{powerAt(1e6, 1e6), powerAt(1e6, 1e6), powerAt(1, 0)}
	wantPower(t, []impl.Power{great, less, small}, amps, powerAt(1e-6, 1e-6), impl.OK)
	wantPower(t, []impl.Power{great, less, powerAt(1e-6, 0)}, amps, powerAt(1e-6, 0), impl.OK)
	wantPower(t, []impl.Power{small, great, less}, []impl.Power{amps[2], amps[0], amps[1]}, powerAt(0, 0), impl.OK)
	wantPower(t, []impl.Power{great, small, less}, []impl.Power{amps[0], amps[2], amps[1]}, powerAt(0, 0), impl.OK)
	tiny, one := powerAt(1e6, 0), powerAt(1e-5, 0)
	wantBridge(t, []impl.Power{one, powerAt(-1e-5, 0), tiny}, powerAt(1e-6, 0), impl.OK)
	for _, parts := range [][]impl.Power{{powerAt(1e-12, 0), tiny, powerAt(-1e-12, 0)}, {tiny, powerAt(1e-12, 0), powerAt(-1e-12, 0)}} {
		wantBridge(t, parts, powerAt(0, 0), impl.OK)
		wantBridgeByWords(t, parts)
	}
}

func TestP23PowersAtTheirLimits(t *testing.T) {
	for count := range impl.MaxPhases + 1 {
		for _, volt := range []impl.Power{powerAt(1e6, -1e6), powerAt(-1e6, 1e6), powerAt(3, 4)} {
			volts := slices.Repeat([]impl.Power{volt}, count)
			wantPowerByWords(t, volts, manyPowers(count))
			wantPowerByWords(t, manyPowers(count), volts)
			wantBridgeByWords(t, volts)
			if code := powersFault(volts); code != impl.OK {
				t.Errorf("%d of %v: %d", count, volt, code)
			}
		}
	}
	for _, count := range []int{impl.MaxPhases + 1, impl.MaxPhases + 2, impl.MaxList} {
		wantPower(t, manyPowers(count), manyPowers(count), impl.Power{}, impl.ErrBad)
		wantPower(t, manyPowers(count), nil, impl.Power{}, impl.ErrBad)
		wantPower(t, nil, manyPowers(count), impl.Power{}, impl.ErrBad)
		wantBridge(t, manyPowers(count), impl.Power{}, impl.ErrBad)
	}
	for _, count := range []int{impl.MaxList + 1, 2 * impl.MaxList} {
		wantPower(t, manyPowers(count), manyPowers(count), impl.Power{}, impl.ErrLong)
		wantPower(t, manyPowers(count), nil, impl.Power{}, impl.ErrLong)
		wantPower(t, nil, manyPowers(count), impl.Power{}, impl.ErrLong)
		wantBridge(t, manyPowers(count), impl.Power{}, impl.ErrLong)
	}
	for _, wrong := range wrongPowers() {
		wantPower(t, wrong, wrong, impl.Power{}, impl.ErrBad)
		wantPower(t, wrong, manyPowers(len(wrong)), impl.Power{}, impl.ErrBad)
		wantPower(t, manyPowers(len(wrong)), wrong, impl.Power{}, impl.ErrBad)
		wantBridge(t, wrong, impl.Power{}, impl.ErrBad)
	}
	for _, number := range []float64{1e6, -1e6, math.Nextafter(1e6, 0), math.Nextafter(-1e6, 0)} {
		for place := range impl.MaxPhases {
			powers := manyPowers(impl.MaxPhases)
			powers[place] = powerAt(number, -number)
			wantPowerByWords(t, powers, powers)
			wantBridgeByWords(t, powers)
		}
	}
	for _, number := range wrongParts() {
		for place := range impl.MaxPhases {
			powers := manyPowers(impl.MaxPhases)
			powers[place].Re = number
			wantPower(t, powers, manyPowers(impl.MaxPhases), impl.Power{}, impl.ErrBad)
			wantPower(t, manyPowers(impl.MaxPhases), powers, impl.Power{}, impl.ErrBad)
			wantBridge(t, powers, impl.Power{}, impl.ErrBad)
			powers[place] = powerAt(3, number)
			wantPower(t, powers, manyPowers(impl.MaxPhases), impl.Power{}, impl.ErrBad)
			wantPower(t, manyPowers(impl.MaxPhases), powers, impl.Power{}, impl.ErrBad)
			wantBridge(t, powers, impl.Power{}, impl.ErrBad)
		}
	}
}

func TestP23VoltsAndAmpsThatAreNotAsMany(t *testing.T) {
	for volts := range impl.MaxPhases + 1 {
		for amps := range impl.MaxPhases + 1 {
			wantPowerByWords(t, manyPowers(volts), manyPowers(amps))
			if volts != amps {
				wantPower(t, manyPowers(volts), manyPowers(amps), impl.Power{}, impl.ErrForm)
			}
		}
	}
}

func TestP23WhichFaultOfPowersComesFirst(t *testing.T) {
	wrong, long := []impl.Power{powerAt(math.NaN(), 0)}, manyPowers(impl.MaxList+1)
	wantPower(t, wrong, long, impl.Power{}, impl.ErrLong)
	wantPower(t, long, wrong, impl.Power{}, impl.ErrLong)
	wantPower(t, manyPowers(impl.MaxList), long, impl.Power{}, impl.ErrLong)
	for _, right := range [][]impl.Power{nil, manyPowers(2), manyPowers(impl.MaxPhases)} {
		wantPower(t, wrong, right, impl.Power{}, impl.ErrBad)
		wantPower(t, right, wrong, impl.Power{}, impl.ErrBad)
	}
	for _, part := range []float64{math.NaN(), 1000001, math.Inf(-1)} {
		wantBridge(t, []impl.Power{{}, powerAt(part, 1)}, impl.Power{}, impl.ErrBad)
		wantBridge(t, []impl.Power{powerAt(1, part), {}}, impl.Power{}, impl.ErrBad)
	}
	wantBridge(t, make([]impl.Power, impl.MaxPhases+1), impl.Power{}, impl.ErrBad)
	wantBridge(t, make([]impl.Power, impl.MaxList+1), impl.Power{}, impl.ErrLong)
}

func TestP23BridgesByHand(t *testing.T) {
	minus := minusNought()
	for _, c := range []struct {
		parts []impl.Power
		want  impl.Power
	}{
		{nil, powerAt(0, 0)},
		{[]impl.Power{powerAt(2, 0), powerAt(0, 2)}, powerAt(0.5, -0.5)},
		{[]impl.Power{powerAt(3, 4)}, powerAt(0.12, -0.16)},
		{[]impl.Power{powerAt(-3, 4)}, powerAt(-0.12, -0.16)},
		{[]impl.Power{powerAt(3, -4)}, powerAt(0.12, 0.16)},
		{[]impl.Power{powerAt(1, 0), powerAt(1, 0), powerAt(2, 0)}, powerAt(2.5, 0)},
		{[]impl.Power{powerAt(1, 1), powerAt(1, -1)}, powerAt(1, 0)},
		{[]impl.Power{powerAt(1e6, 0)}, powerAt(1e-6, 0)},
		{[]impl.Power{powerAt(1e6, 1e6)}, powerAt(5e-7, -5e-7)},
		// noughts are added to +0
		{[]impl.Power{powerAt(minus, 1)}, powerAt(0, -1)},
		{[]impl.Power{powerAt(1, minus)}, powerAt(1, 0)},
		{[]impl.Power{powerAt(-1, 0)}, powerAt(-1, 0)},
		{[]impl.Power{powerAt(-5e-324, 1e6)}, powerAt(0, -1e-6)},
		// n is so small that the quotients are very great
		{[]impl.Power{powerAt(math.Ldexp(1, -537), 0)}, powerAt(math.Ldexp(1, 537), 0)},
		{[]impl.Power{powerAt(0, -math.Ldexp(1, -500))}, powerAt(0, math.Ldexp(1, 500))},
		{[]impl.Power{powerAt(math.Ldexp(3, -538), 0)}, powerAt(math.Ldexp(3, 535), 0)},       // n is 2.25 of the least number
		{[]impl.Power{powerAt(math.Ldexp(1, -537), 5e-324)}, powerAt(math.Ldexp(1, 537), -1)}, // {0, 5e-324} alone has no n
	} {
		wantBridge(t, c.parts, c.want, impl.OK)
		wantBridgeByWords(t, c.parts)
	}
}

func TestP23BridgesAgainstAPlainReading(t *testing.T) {
	r := fixed()
	for range 3000 {
		wantBridgeByWords(t, anyPowers(r, r.IntN(4)))
		wantBridgeByWords(t, plainPowers(r, r.IntN(impl.MaxPhases+1)))
		small := powerAt(math.Ldexp(4*r.Float64(), -538-r.IntN(3)), math.Ldexp(4*r.Float64(), -538-r.IntN(3)))
		wantBridgeByWords(t, []impl.Power{small})
		wantBridgeByWords(t, []impl.Power{powerAt(3, 4), small, powerAt(small.Im, -small.Re)})
	}
	for _, parts := range slices.Concat(rightPowers(), wrongPowers()) {
		wantBridgeByWords(t, parts)
	}
}

// With each part alone the bridge tells what is added for it.
func TestP23ABridgeIsAddedPartByPart(t *testing.T) {
	r := fixed()
	for range 1000 {
		parts := plainPowers(r, r.IntN(impl.MaxPhases+1))
		var sum impl.Power
		for _, part := range parts {
			alone, code := impl.Bridge([]impl.Power{part})
			if code != impl.OK {
				t.Errorf("Bridge of %v: %d", part, code)
			}
			sum = powerSumExactly(sum, alone)
		}
		wantBridge(t, parts, sum, impl.OK)
	}
}

// otherBridges are made as the document does not tell it.
func otherBridges(parts []impl.Power) map[string]impl.Power {
	var fused, fusedSecond, long, language, times, backward impl.Power
	for place, p := range parts {
		n := math.FMA(p.Re, p.Re, float64(p.Im*p.Im))
		fused = powerSumExactly(fused, powerAt(p.Re/n, -p.Im/n))
		n = math.FMA(p.Im, p.Im, float64(p.Re*p.Re))
		fusedSecond = powerSumExactly(fusedSecond, powerAt(p.Re/n, -p.Im/n))
		whole := exact(0).Add(exact(0).Mul(exact(p.Re), exact(p.Re)), exact(0).Mul(exact(p.Im), exact(p.Im)))
		long = powerSumExactly(long, powerAt(rounded(exact(0).Quo(exact(p.Re), whole)), rounded(exact(0).Quo(exact(-p.Im), whole))))
		one := 1 / complex(p.Re, p.Im)
		language = powerSumExactly(language, powerAt(real(one), imag(one)))
		n = 1 / (float64(p.Re*p.Re) + float64(p.Im*p.Im))
		times = powerSumExactly(times, powerAt(p.Re*n, -p.Im*n))
		last := parts[len(parts)-1-place]
		n = float64(last.Re*last.Re) + float64(last.Im*last.Im)
		backward = powerSumExactly(backward, powerAt(last.Re/n, -last.Im/n))
	}
	return map[string]impl.Power{
		"with the first product and a sum in one": fused, "with the second product and a sum in one": fusedSecond, "with an n that is not rounded": long, "by the language's quotient": language, "by the part of one": times, "from the end": backward,
	}
}

func TestP23BridgesAreRoundedAsTold(t *testing.T) {
	r := fixed()
	differRe, differIm := map[string]int{}, map[string]int{}
	for range 500 {
		parts := plainPowers(r, 1+r.IntN(impl.MaxPhases))
		wantBridgeByWords(t, parts)
		bridge, _ := impl.Bridge(parts)
		for name, other := range otherBridges(parts) {
			if !sameBits(other.Re, bridge.Re) {
				differRe[name]++
			}
			if !sameBits(other.Im, bridge.Im) {
				differIm[name]++
			}
		}
	}
	for name := range otherBridges(nil) {
		if differRe[name] == 0 || differIm[name] == 0 {
			t.Errorf("no bridge differs from one %s", name)
		}
	}
}

// n may come out as 0 of parts that are not 0, for each product is rounded on its own.
func TestP23BridgesWithoutAnN(t *testing.T) {
	half := math.Ldexp(1, -538)
	for _, part := range []impl.Power{{}, powerAt(minusNought(), 0), powerAt(0, minusNought()), powerAt(minusNought(), minusNought()), powerAt(5e-324, 0), powerAt(0, -5e-324), powerAt(1e-200, 1e-200), powerAt(-1e-163, 1e-163), powerAt(half, -half)} {
		wantBridgeByWords(t, []impl.Power{part})
		wantBridge(t, []impl.Power{part}, impl.Power{}, impl.ErrZero)
		for place := range impl.MaxPhases {
			parts := manyPowers(impl.MaxPhases)
			parts[place] = part
			wantBridge(t, parts, impl.Power{}, impl.ErrZero)
		}
	}
	near := math.Sqrt(0.49) * 2 * half // the square is 0.49 of the least number
	wantBridge(t, []impl.Power{powerAt(near, near)}, impl.Power{}, impl.ErrZero)
	over := math.Sqrt(0.51) * 2 * half
	wantBridge(t, []impl.Power{powerAt(over, 0)}, powerAt(partExactly(over, 5e-324), 0), impl.OK)
	wantBridge(t, []impl.Power{powerAt(over, -near)}, powerAt(partExactly(over, 5e-324), partExactly(near, 5e-324)), impl.OK)
}

package tests

import (
	"fmt"
	"math"
	"math/rand/v2"
	"slices"
	"testing"

	"loop.example/g00067/impl"
)

func cartHeld(cart, units, num int) impl.CartAct {
	return impl.CartAct{Kind: impl.CaHold, Cart: cart, Units: units, Num: num}
}

func cartBought(cart int) impl.CartAct { return impl.CartAct{Kind: impl.CaBuy, Cart: cart} }

func cartDropped(cart int) impl.CartAct { return impl.CartAct{Kind: impl.CaDrop, Cart: cart} }

func minutesOn(num int) impl.CartAct { return impl.CartAct{Kind: impl.CaTick, Num: num} }

func cartActs(acts ...impl.CartAct) []impl.CartAct { return acts }

// cartsAhead does not write into what the acts ahead share with others.
func cartsAhead(ahead []impl.CartAct, acts ...impl.CartAct) []impl.CartAct {
	return slices.Concat(ahead, acts)
}

func holdOf(cart, units, until int) impl.CartHold {
	return impl.CartHold{Cart: cart, Units: units, Until: until}
}

func cartsOf(now, free, sold int, holds ...impl.CartHold) impl.Carts {
	return impl.Carts{Now: now, Free: free, Sold: sold, Holds: holds}
}

func sameCarts(a, b impl.Carts) bool {
	return a.Now == b.Now && a.Free == b.Free && a.Sold == b.Sold && slices.Equal(a.Holds, b.Holds)
}

func cartsSaid(units int, acts []impl.CartAct) string {
	return fmt.Sprintf("(%d, %.600s)", units, fmt.Sprint(acts))
}

const (
	unitFree = -1
	unitSold = -2
)

// cartUnits is an article unit by unit: of each the number of its hold, or that it is free or sold. holds are all that there ever were.
type cartUnits struct {
	now   int
	units []int
	holds []impl.CartHold
}

func (c *cartUnits) count(place int) int {
	sum := 0
	for _, at := range c.units {
		if at == place {
			sum++
		}
	}
	return sum
}

// move tells whether there was any unit in a hold that goes.
func (c *cartUnits) move(to int, goes func(h impl.CartHold) bool) bool {
	moved := false
	for unit, at := range c.units {
		if at >= 0 && goes(c.holds[at]) {
			c.units[unit], moved = to, true
		}
	}
	return moved
}

func (c *cartUnits) do(act impl.CartAct) int {
	of := func(h impl.CartHold) bool { return h.Cart == act.Cart }
	switch act.Kind {
	case 1:
		if act.Cart < 1 || act.Cart > 1000000 || act.Units < 1 || act.Units > 100000 || act.Num < 1 || act.Num > 10000 {
			return impl.ErrRange
		}
		if c.count(unitFree) < act.Units {
			return impl.ErrShort
		}
		for range act.Units {
			c.units[slices.Index(c.units, unitFree)] = len(c.holds)
		}
		c.holds = append(c.holds, holdOf(act.Cart, act.Units, c.now+act.Num))
	case 2, 3:
		if act.Cart < 1 {
			return impl.ErrRange
		}
		to := unitSold
		if act.Kind == 3 {
			to = unitFree
		}
		if !c.move(to, of) {
			return impl.ErrNone
		}
	case 4:
		if act.Num < 0 || act.Num > 10000 {
			return impl.ErrRange
		}
		c.now += act.Num
		c.move(unitFree, func(h impl.CartHold) bool { return h.Until <= c.now })
	default:
		return impl.ErrKind
	}
	return impl.OK
}

func (c *cartUnits) carts() impl.Carts {
	carts := impl.Carts{Now: c.now, Free: c.count(unitFree), Sold: c.count(unitSold)}
	for number, hold := range c.holds {
		if hold.Units = c.count(number); hold.Units > 0 {
			carts.Holds = append(carts.Holds, hold)
		}
	}
	return carts
}

func cartsByWords(units int, acts []impl.CartAct) ([]impl.CartObs, impl.Carts, int) {
	switch {
	case len(acts) > 4096:
		return nil, impl.Carts{}, impl.ErrLong
	case units < 0 || units > 100000:
		return nil, impl.Carts{}, impl.ErrRange
	case len(acts) > 200:
		return nil, impl.Carts{}, impl.ErrMany
	}
	c := &cartUnits{units: alike(unitFree, units)}
	var told []impl.CartObs
	for _, act := range acts {
		code := c.do(act)
		told = append(told, impl.CartObs{Code: code, Free: c.count(unitFree)})
	}
	return told, c.carts(), impl.OK
}

func heldUnits(holds []impl.CartHold) int {
	sum := 0
	for _, hold := range holds {
		sum += hold.Units
	}
	return sum
}

// wantCarts asks for the code of the last act and what there is behind it; the acts ahead of it have no code.
func wantCarts(t *testing.T, what string, units int, acts []impl.CartAct, wantCode int, want impl.Carts) {
	t.Helper()
	told, got, code := impl.CartRun(units, acts)
	last := impl.CartObs{Code: wantCode, Free: want.Free}
	if code != impl.OK || len(told) != len(acts) || told[len(acts)-1] != last || !sameCarts(got, want) {
		t.Fatalf("%s: CartRun%s = %v, %+v, %d; want %v last, and %+v", what, cartsSaid(units, acts), told, got, code, last, want)
	}
	for i, o := range told[:len(acts)-1] {
		if o.Code != impl.OK {
			t.Errorf("%s: act %d of %s has the code %d", what, i, cartsSaid(units, acts), o.Code)
		}
	}
	wantCartsKept(t, what, units, acts)
}

// wantCartCode asks that the last act has a code, and so changes nothing.
func wantCartCode(t *testing.T, what string, units int, ahead []impl.CartAct, act impl.CartAct, code int) {
	t.Helper()
	_, is, _ := impl.CartRun(units, ahead)
	wantCarts(t, what, units, cartsAhead(ahead, act), code, is)
}

// wantCartsKept goes through the acts one more at a time: at each of them what is free, held and sold are all units, no hold that is left is over, an act with a code changes nothing, and what was told of an act does not hang on those behind it.
func wantCartsKept(t *testing.T, what string, units int, acts []impl.CartAct) {
	t.Helper()
	all, _, _ := impl.CartRun(units, acts)
	ahead := cartsOf(0, units, 0)
	for i, act := range acts {
		told, now, code := impl.CartRun(units, acts[:i+1])
		if code != impl.OK || !slices.Equal(told, all[:i+1]) {
			t.Fatalf("%s: the first %d acts are told as %v, %d; among %s as %v", what, i+1, told, code, cartsSaid(units, acts), all[:i+1])
		}
		if now.Free+heldUnits(now.Holds)+now.Sold != units || now.Free < 0 || now.Sold < 0 || now.Free != told[i].Free {
			t.Fatalf("%s: behind act %d of %s there are not all units: %v, %+v", what, i, cartsSaid(units, acts), told[i], now)
		}
		if slices.ContainsFunc(now.Holds, func(h impl.CartHold) bool { return h.Until <= now.Now || h.Units < 1 || h.Cart < 1 }) {
			t.Fatalf("%s: behind act %d of %s a hold is over: %+v", what, i, cartsSaid(units, acts), now)
		}
		if fault := cartStepFault(ahead, now, act, told[i].Code); fault != "" {
			t.Fatalf("%s: act %d of %s makes %+v of %+v: %s", what, i, cartsSaid(units, acts), now, ahead, fault)
		}
		ahead = now
	}
}

// cartStepFault holds what an act made against what it may change.
func cartStepFault(ahead, now impl.Carts, act impl.CartAct, code int) string {
	if code != impl.OK {
		if !sameCarts(ahead, now) {
			return "an act with a code changes something"
		}
		return ""
	}
	stays := func(h impl.CartHold) bool { return h.Cart != act.Cart }
	switch act.Kind {
	case impl.CaHold:
		stays = func(impl.CartHold) bool { return true }
		now.Holds = now.Holds[:len(now.Holds)-1]
	case impl.CaTick:
		stays = func(h impl.CartHold) bool { return h.Until > now.Now }
	}
	if left := slices.DeleteFunc(slices.Clone(ahead.Holds), func(h impl.CartHold) bool { return !stays(h) }); !slices.Equal(left, now.Holds) {
		return "other holds went"
	}
	if act.Kind != impl.CaBuy && now.Sold != ahead.Sold || act.Kind == impl.CaBuy && now.Free != ahead.Free {
		return "units went elsewhere"
	}
	if act.Kind != impl.CaTick && now.Now != ahead.Now || act.Kind == impl.CaTick && now.Now != ahead.Now+act.Num {
		return "another minute"
	}
	return ""
}

func wantCartsByWords(t *testing.T, units int, acts []impl.CartAct) []impl.CartObs {
	t.Helper()
	wantTold, want, wantCode := cartsByWords(units, acts)
	told, got, code := impl.CartRun(units, acts)
	if code != wantCode || !slices.Equal(told, wantTold) || !sameCarts(got, want) {
		t.Fatalf("CartRun%s = %v, %+v, %d; want %v, %+v, %d", cartsSaid(units, acts), told, got, code, wantTold, want, wantCode)
	}
	return told
}

func wantNoCarts(t *testing.T, units int, acts []impl.CartAct, want int) {
	t.Helper()
	told, carts, code := impl.CartRun(units, acts)
	if code != want || len(told) != 0 || !sameCarts(carts, impl.Carts{}) {
		t.Errorf("CartRun%s = %v, %+v, %d; want code %d", cartsSaid(units, acts), told, carts, code, want)
	}
}

func unitsOutOfRange() []int {
	return []int{math.MinInt, math.MinInt + 1, -impl.MaxMany, -1, impl.MaxMany + 1, impl.MaxMoney, math.MaxInt32 + 1, 1<<32 + 1, math.MaxInt - 1, math.MaxInt}
}

func TestP24CartsBegin(t *testing.T) {
	for _, units := range []int{0, 1, 2, 100, impl.MaxMany - 1, impl.MaxMany} {
		for _, none := range [][]impl.CartAct{nil, {}} {
			told, carts, code := impl.CartRun(units, none)
			if code != impl.OK || len(told) != 0 || !sameCarts(carts, cartsOf(0, units, 0)) {
				t.Error("CartRun of no acts", units, told, carts, code)
			}
		}
		wantCarts(t, "no minute goes by", units, cartActs(minutesOn(0)), impl.OK, cartsOf(0, units, 0))
	}
	for _, units := range unitsOutOfRange() {
		for _, acts := range [][]impl.CartAct{nil, {}, cartActs(minutesOn(0)), cartActs(impl.CartAct{}), make([]impl.CartAct, impl.MaxActs)} {
			wantNoCarts(t, units, acts, impl.ErrRange)
		}
	}
}

func TestP24AsManyActsOfCartsAsThereMayBe(t *testing.T) {
	for _, act := range cartActs(impl.CartAct{}, cartHeld(1, 1, 1), cartBought(1), cartDropped(1), minutesOn(1)) {
		for _, units := range []int{0, 150, impl.MaxMany} {
			told, _, code := impl.CartRun(units, slices.Repeat(cartActs(act), impl.MaxActs))
			if code != impl.OK || len(told) != impl.MaxActs {
				t.Error("MaxActs acts", act, units, len(told), code)
			}
			wantCartsByWords(t, min(units, 150), slices.Repeat(cartActs(act), impl.MaxActs))
			for _, count := range []int{impl.MaxActs + 1, impl.MaxActs + 2, 1000, impl.MaxList} {
				wantNoCarts(t, units, slices.Repeat(cartActs(act), count), impl.ErrMany)
			}
			for _, count := range []int{impl.MaxList + 1, 2 * impl.MaxList} {
				wantNoCarts(t, units, slices.Repeat(cartActs(act), count), impl.ErrLong)
			}
		}
		for _, units := range unitsOutOfRange() { // ErrLong ahead of ErrRange, that ahead of ErrMany
			for _, count := range []int{impl.MaxActs + 1, impl.MaxList} {
				wantNoCarts(t, units, slices.Repeat(cartActs(act), count), impl.ErrRange)
			}
			wantNoCarts(t, units, slices.Repeat(cartActs(act), impl.MaxList+1), impl.ErrLong)
		}
	}
	var acts []impl.CartAct
	var holds []impl.CartHold
	for i := range impl.MaxActs {
		acts = append(acts, cartHeld(impl.MaxLotNo-i, i+1, impl.MaxHold-i))
		holds = append(holds, holdOf(impl.MaxLotNo-i, i+1, impl.MaxHold-i))
	}
	wantCarts(t, "as many holds", 20100, acts, impl.OK, cartsOf(0, 0, 0, holds...))
	ticks := slices.Repeat(cartActs(minutesOn(impl.MaxHold)), impl.MaxActs)
	wantCarts(t, "as many minutes", 7, ticks, impl.OK, cartsOf(2000000, 7, 0))
	wantCarts(t, "a hold behind all of them", 7, append(ticks[1:], cartHeld(1, 7, impl.MaxHold)), impl.OK, cartsOf(1990000, 0, 0, holdOf(1, 7, 2000000)))
}

func TestP24AHoldBehindTheOthers(t *testing.T) {
	wantCarts(t, "one", 10, cartActs(cartHeld(7, 4, 5)), impl.OK, cartsOf(0, 6, 0, holdOf(7, 4, 5)))
	three := cartActs(cartHeld(7, 4, 5), cartHeld(2, 1, 9), cartHeld(5, 3, 1))
	wantCarts(t, "by their acts, not their Carts or Untils", 10, three, impl.OK, cartsOf(0, 2, 0, holdOf(7, 4, 5), holdOf(2, 1, 9), holdOf(5, 3, 1)))
	wantCarts(t, "of a Cart that has one already", 10, cartsAhead(three, cartHeld(7, 1, 5)), impl.OK, cartsOf(0, 1, 0, holdOf(7, 4, 5), holdOf(2, 1, 9), holdOf(5, 3, 1), holdOf(7, 1, 5)))
	wantCarts(t, "just the same again", 10, cartsAhead(three[1:2], three[1]), impl.OK, cartsOf(0, 8, 0, holdOf(2, 1, 9), holdOf(2, 1, 9)))
	wantCarts(t, "from Now on", 10, cartActs(minutesOn(30), cartHeld(7, 4, 5)), impl.OK, cartsOf(30, 6, 0, holdOf(7, 4, 35)))
	wantCarts(t, "from Now on, behind another", 10, cartActs(cartHeld(1, 1, 100), minutesOn(30), cartHeld(7, 4, 5)), impl.OK, cartsOf(30, 5, 0, holdOf(1, 1, 100), holdOf(7, 4, 35)))
	wantCarts(t, "all that is free", 10, cartActs(cartHeld(7, 10, 5)), impl.OK, cartsOf(0, 0, 0, holdOf(7, 10, 5)))
	wantCarts(t, "all that is free behind others", 10, cartsAhead(three, cartHeld(8, 2, 5)), impl.OK, cartsOf(0, 0, 0, holdOf(7, 4, 5), holdOf(2, 1, 9), holdOf(5, 3, 1), holdOf(8, 2, 5)))
	wantCartCode(t, "one more than is free", 10, nil, cartHeld(7, 11, 5), impl.ErrShort)
	wantCartCode(t, "one more than is free behind others", 10, three, cartHeld(8, 3, 5), impl.ErrShort)
	wantCartCode(t, "for a Cart that has one, more than is free", 10, three, cartHeld(7, 3, 5), impl.ErrShort)
	wantCartCode(t, "nothing is free", 10, cartActs(cartHeld(7, 10, 5)), cartHeld(7, 1, 5), impl.ErrShort)
	wantCartCode(t, "there is nothing", 0, nil, cartHeld(7, 1, 5), impl.ErrShort)
	wantCartCode(t, "all is sold", 10, cartActs(cartHeld(7, 10, 5), cartBought(7)), cartHeld(7, 1, 5), impl.ErrShort)
	wantCarts(t, "what was dropped can be held", 10, cartActs(cartHeld(7, 10, 5), cartDropped(7), cartHeld(8, 10, 5)), impl.OK, cartsOf(0, 0, 0, holdOf(8, 10, 5)))
	wantCarts(t, "what is over can be held", 10, cartActs(cartHeld(7, 10, 5), minutesOn(5), cartHeld(7, 10, 5)), impl.OK, cartsOf(5, 0, 0, holdOf(7, 10, 10)))
}

func TestP24HoldsAtTheirEnds(t *testing.T) {
	ahead, first := cartActs(cartHeld(9, 1, 100), minutesOn(3)), holdOf(9, 1, 100)
	for _, right := range []impl.CartHold{holdOf(1, 1, 1), holdOf(impl.MaxLotNo, 1, 1), holdOf(impl.MaxLotNo-1, 2, 2), holdOf(1, impl.MaxMany-1, 1), holdOf(1, 1, impl.MaxHold), holdOf(impl.MaxLotNo, impl.MaxMany-1, impl.MaxHold)} {
		want := holdOf(right.Cart, right.Units, 3+right.Until)
		wantCarts(t, "a right one", impl.MaxMany, cartsAhead(ahead, cartHeld(right.Cart, right.Units, right.Until)), impl.OK, cartsOf(3, impl.MaxMany-1-right.Units, 0, first, want))
	}
	wantCarts(t, "as many units as there may be", impl.MaxMany, cartActs(cartHeld(1, impl.MaxMany, 1)), impl.OK, cartsOf(0, 0, 0, holdOf(1, impl.MaxMany, 1)))
	wantCartCode(t, "one is held already", impl.MaxMany, ahead, cartHeld(1, impl.MaxMany, 1), impl.ErrShort)
	for _, units := range []int{0, 1, 50, impl.MaxMany} { // ahead of ErrShort
		for _, n := range []int{math.MinInt, -impl.MaxLotNo, -1, 0, impl.MaxLotNo + 1, math.MaxInt32 + 1, 1<<32 + 1, math.MaxInt} {
			wantCartCode(t, "no Cart", units, nil, cartHeld(n, 1, 1), impl.ErrRange)
			wantCartCode(t, "no Cart", units, nil, cartHeld(n, impl.MaxMany, 1), impl.ErrRange)
		}
		for _, n := range []int{math.MinInt, -impl.MaxMany, -1, 0, impl.MaxMany + 1, impl.MaxLotNo, math.MaxInt32 + 1, 1<<32 + 1, math.MaxInt} {
			wantCartCode(t, "no Units", units, nil, cartHeld(1, n, 1), impl.ErrRange)
		}
		for _, n := range []int{math.MinInt, -impl.MaxHold, -1, 0, impl.MaxHold + 1, impl.MaxMany, math.MaxInt32 + 1, 1<<32 + 1, math.MaxInt} {
			wantCartCode(t, "no Num", units, nil, cartHeld(1, 1, n), impl.ErrRange)
			wantCartCode(t, "no Num", units, nil, cartHeld(1, impl.MaxMany, n), impl.ErrRange)
		}
	}
}

// Of three carts one has two holds.
func fourHolds() []impl.CartAct {
	return cartActs(cartHeld(4, 10, 50), cartHeld(6, 20, 9), cartHeld(4, 30, 7), cartHeld(5, 1, 50))
}

func TestP24CartsAreBoughtAndDropped(t *testing.T) {
	a, b, c, d := holdOf(4, 10, 50), holdOf(6, 20, 9), holdOf(4, 30, 7), holdOf(5, 1, 50)
	wantCarts(t, "bought: all holds of a Cart", 100, cartsAhead(fourHolds(), cartBought(4)), impl.OK, cartsOf(0, 39, 40, b, d))
	wantCarts(t, "dropped: all holds of a Cart", 100, cartsAhead(fourHolds(), cartDropped(4)), impl.OK, cartsOf(0, 79, 0, b, d))
	wantCarts(t, "bought: the one in between", 100, cartsAhead(fourHolds(), cartBought(6)), impl.OK, cartsOf(0, 39, 20, a, c, d))
	wantCarts(t, "dropped: the one in between", 100, cartsAhead(fourHolds(), cartDropped(6)), impl.OK, cartsOf(0, 59, 0, a, c, d))
	wantCarts(t, "bought: the last one", 100, cartsAhead(fourHolds(), cartBought(5)), impl.OK, cartsOf(0, 39, 1, a, b, c))
	wantCarts(t, "dropped: the last one", 100, cartsAhead(fourHolds(), cartDropped(5)), impl.OK, cartsOf(0, 40, 0, a, b, c))
	wantCarts(t, "all of them", 100, cartsAhead(fourHolds(), cartBought(5), cartDropped(4), cartBought(6)), impl.OK, cartsOf(0, 79, 21))
	wantCarts(t, "one hold is over, the other is bought", 100, cartsAhead(fourHolds(), minutesOn(8), cartBought(4)), impl.OK, cartsOf(8, 69, 10, b, d))
	wantCarts(t, "one hold is over, the other is dropped", 100, cartsAhead(fourHolds(), minutesOn(8), cartDropped(4)), impl.OK, cartsOf(8, 79, 0, b, d))
	wantCarts(t, "held again behind what was bought", 100, cartsAhead(fourHolds(), cartBought(4), cartHeld(4, 39, 5), cartBought(4)), impl.OK, cartsOf(0, 0, 79, b, d))
	for _, leave := range []func(int) impl.CartAct{cartBought, cartDropped} {
		for _, cart := range []int{1, 3, 7, impl.MaxLotNo, impl.MaxLotNo + 1, 1<<32 + 4, math.MaxInt} { // a Cart of any number may have none
			wantCartCode(t, "there are none", 100, nil, leave(cart), impl.ErrNone)
			wantCartCode(t, "there are others", 100, fourHolds(), leave(cart), impl.ErrNone)
		}
		for _, cart := range []int{0, -1, -4, -1 << 32, math.MinInt + 1, math.MinInt} {
			wantCartCode(t, "no Cart, and there are none", 100, nil, leave(cart), impl.ErrRange)
			wantCartCode(t, "no Cart", 100, fourHolds(), leave(cart), impl.ErrRange)
		}
		wantCartCode(t, "it is bought already", 100, cartsAhead(fourHolds(), cartBought(4)), leave(4), impl.ErrNone)
		wantCartCode(t, "it is dropped already", 100, cartsAhead(fourHolds(), cartDropped(4)), leave(4), impl.ErrNone)
		wantCartCode(t, "it is over", 100, cartsAhead(fourHolds(), minutesOn(9)), leave(6), impl.ErrNone)
	}
	wantCarts(t, "the greatest Cart", 3, cartActs(cartHeld(impl.MaxLotNo, 2, 1), cartBought(impl.MaxLotNo)), impl.OK, cartsOf(0, 1, 2))
	wantCarts(t, "the least Cart", 3, cartActs(cartHeld(1, 2, 1), cartDropped(1)), impl.OK, cartsOf(0, 3, 0))
	wantCarts(t, "all units", impl.MaxMany, cartActs(cartHeld(1, impl.MaxMany, 1), cartBought(1)), impl.OK, cartsOf(0, 0, impl.MaxMany))
}

func TestP24HoldsThatEnd(t *testing.T) {
	a, b, c, d := holdOf(4, 10, 50), holdOf(6, 20, 9), holdOf(4, 30, 7), holdOf(5, 1, 50)
	for _, step := range []struct {
		minutes, free int
		holds         []impl.CartHold
	}{
		{0, 39, []impl.CartHold{a, b, c, d}},
		{6, 39, []impl.CartHold{a, b, c, d}}, // one short of it
		{7, 69, []impl.CartHold{a, b, d}},    // just at it
		{8, 69, []impl.CartHold{a, b, d}},
		{9, 89, []impl.CartHold{a, d}}, // two of them
		{49, 89, []impl.CartHold{a, d}},
		{50, 100, nil}, // two that end at once
		{51, 100, nil},
		{impl.MaxHold, 100, nil},
	} {
		wantCarts(t, "at once", 100, cartsAhead(fourHolds(), minutesOn(step.minutes)), impl.OK, cartsOf(step.minutes, step.free, 0, step.holds...))
		wantCarts(t, "in two steps", 100, cartsAhead(fourHolds(), minutesOn(step.minutes/2), minutesOn(step.minutes-step.minutes/2)), impl.OK, cartsOf(step.minutes, step.free, 0, step.holds...))
		wantCarts(t, "no minute more", 100, cartsAhead(fourHolds(), minutesOn(step.minutes), minutesOn(0)), impl.OK, cartsOf(step.minutes, step.free, 0, step.holds...))
	}
	wantCarts(t, "not by a hold, though the time is near", 100, cartsAhead(fourHolds(), minutesOn(6), cartHeld(1, 39, 1)), impl.OK, cartsOf(6, 0, 0, a, b, c, d, holdOf(1, 39, 7)))
	wantCarts(t, "the longest hold", 5, cartActs(cartHeld(1, 5, impl.MaxHold), minutesOn(impl.MaxHold-1)), impl.OK, cartsOf(impl.MaxHold-1, 0, 0, holdOf(1, 5, impl.MaxHold)))
	wantCarts(t, "the longest hold ends", 5, cartActs(cartHeld(1, 5, impl.MaxHold), minutesOn(impl.MaxHold)), impl.OK, cartsOf(impl.MaxHold, 5, 0))
	wantCarts(t, "what is sold does not come back", 100, cartsAhead(fourHolds(), cartBought(4), minutesOn(impl.MaxHold)), impl.OK, cartsOf(impl.MaxHold, 60, 40))
	for _, num := range []int{math.MinInt, math.MinInt + 1, -impl.MaxHold, -7, -1, impl.MaxHold + 1, impl.MaxMany, math.MaxInt32 + 1, 1<<32 + 7, math.MaxInt} {
		wantCartCode(t, "no Num", 100, fourHolds(), minutesOn(num), impl.ErrRange)
		wantCartCode(t, "no Num, with no holds", 0, nil, minutesOn(num), impl.ErrRange)
	}
}

func TestP24KindsThatAreNone(t *testing.T) {
	for _, kind := range []int{math.MinInt, -4, -1, 0, 5, 6, 100, 1<<32 + 1, math.MaxInt} {
		for _, act := range cartActs(impl.CartAct{Kind: kind}, impl.CartAct{Kind: kind, Cart: 4, Units: 5, Num: 60}, impl.CartAct{Kind: kind, Cart: -1, Units: -1, Num: -1}, impl.CartAct{Kind: kind, Cart: 1, Units: 1000, Num: 1}) {
			wantCartCode(t, "first of all", 100, nil, act, impl.ErrKind)
			wantCartCode(t, "with holds", 100, fourHolds(), act, impl.ErrKind)
		}
	}
}

// What an act's kind does not name is not looked at.
func TestP24NumbersThatMeanNothing(t *testing.T) {
	for _, n := range []int{math.MinInt, -1, 0, 1, 4, impl.MaxHold + 1, math.MaxInt} {
		for _, m := range []int{math.MinInt, 0, 3, math.MaxInt} {
			wantCarts(t, "bought", 100, cartsAhead(fourHolds(), impl.CartAct{Kind: impl.CaBuy, Cart: 6, Units: n, Num: m}), impl.OK, cartsOf(0, 39, 20, holdOf(4, 10, 50), holdOf(4, 30, 7), holdOf(5, 1, 50)))
			wantCarts(t, "dropped", 100, cartsAhead(fourHolds(), impl.CartAct{Kind: impl.CaDrop, Cart: 6, Units: n, Num: m}), impl.OK, cartsOf(0, 59, 0, holdOf(4, 10, 50), holdOf(4, 30, 7), holdOf(5, 1, 50)))
			wantCarts(t, "minutes", 100, cartsAhead(fourHolds(), impl.CartAct{Kind: impl.CaTick, Cart: n, Units: m, Num: 9}), impl.OK, cartsOf(9, 89, 0, holdOf(4, 10, 50), holdOf(5, 1, 50)))
		}
	}
}

// An act with a code changes nothing, and what is free then is told of it all the same.
func TestP24AnActWithACodeIsTold(t *testing.T) {
	acts := cartActs(cartHeld(1, 6, 5), cartHeld(2, 5, 5), impl.CartAct{Kind: 9}, cartBought(3), cartDropped(0), minutesOn(-1), cartHeld(0, 1, 1), cartHeld(2, 4, 9), minutesOn(5), cartBought(1), cartBought(2), cartDropped(2))
	told := wantCartsByWords(t, 10, acts)
	want := []impl.CartObs{
		{Free: 4}, {Code: impl.ErrShort, Free: 4}, {Code: impl.ErrKind, Free: 4}, {Code: impl.ErrNone, Free: 4}, {Code: impl.ErrRange, Free: 4}, {Code: impl.ErrRange, Free: 4},
		{Code: impl.ErrRange, Free: 4}, {Free: 0}, {Free: 6}, {Code: impl.ErrNone, Free: 6}, {Free: 6}, {Code: impl.ErrNone, Free: 6},
	}
	if !slices.Equal(told, want) {
		t.Errorf("CartRun tells %v; want %v", told, want)
	}
}

// All runs of at most four small acts.
func TestP24EverySmallRunOfCarts(t *testing.T) {
	all := cartActs(cartHeld(1, 1, 1), cartHeld(1, 2, 2), cartHeld(2, 1, 2), cartHeld(2, 3, 1), cartHeld(0, 1, 1), cartBought(1), cartBought(2), cartDropped(1), cartDropped(2), minutesOn(0), minutesOn(1), minutesOn(2), minutesOn(-1), impl.CartAct{Kind: 5})
	seen := map[int]int{}
	for count := range 5 {
		eachCounts(count, 0, len(all)-1, func(places []int) {
			var acts []impl.CartAct
			for _, place := range places {
				acts = append(acts, all[place])
			}
			for _, units := range []int{0, 1, 3} {
				for _, o := range wantCartsByWords(t, units, acts) {
					seen[o.Code]++
				}
			}
		})
	}
	for _, code := range []int{impl.OK, impl.ErrRange, impl.ErrShort, impl.ErrNone, impl.ErrKind} {
		if seen[code] < 1000 {
			t.Error("too few of one code", code, seen)
		}
	}
}

func someCartActs(r *rand.Rand, count, carts, units, minutes int) []impl.CartAct {
	var acts []impl.CartAct
	for range count {
		switch cart := 1 + r.IntN(carts); r.IntN(8) {
		case 0, 1, 2, 3:
			acts = append(acts, cartHeld(cart, 1+r.IntN(units), 1+r.IntN(minutes)))
		case 4:
			acts = append(acts, cartBought(cart))
		case 5:
			acts = append(acts, cartDropped(cart))
		case 6:
			acts = append(acts, minutesOn(r.IntN(minutes/2+1)))
		case 7:
			wrong := cartActs(cartHeld(0, 1, 1), cartHeld(1, 0, 1), cartHeld(1, 1, 0), cartBought(carts+1), cartDropped(0), minutesOn(-1), impl.CartAct{Kind: 7, Cart: 1, Units: 1, Num: 1})
			acts = append(acts, wrong[r.IntN(len(wrong))])
		}
	}
	return acts
}

func TestP24CartsByWords(t *testing.T) {
	r := fixed()
	seen, several, ended := map[int]int{}, 0, 0
	for range 3000 {
		units := r.IntN(60)
		acts := someCartActs(r, r.IntN(60), 1+r.IntN(6), 1+r.IntN(12), 2+r.IntN(40))
		told := wantCartsByWords(t, units, acts)
		for i, o := range told {
			seen[o.Code]++
			if i > 0 && acts[i].Kind == impl.CaTick && o.Free > told[i-1].Free+1 {
				ended++
			}
		}
		wantCartsKept(t, "some acts", units, acts)
		if _, carts, _ := impl.CartRun(units, acts); len(carts.Holds) > 3 {
			several++
		}
	}
	for _, code := range []int{impl.OK, impl.ErrRange, impl.ErrShort, impl.ErrNone, impl.ErrKind} {
		if seen[code] < 1000 {
			t.Error("too few of one code", code, seen)
		}
	}
	if min(several, ended) < 300 {
		t.Error("too few runs with several holds, or with ends", several, ended)
	}
	for range 30 {
		wantCartsByWords(t, 1000, someCartActs(r, impl.MaxActs, 1+r.IntN(20), 40, 300))
	}
}

// Carts by other numbers in the same order of acts, and an hour that goes by first: as much is free at each act.
func TestP24OtherCartsAlike(t *testing.T) {
	r := fixed()
	for range 1000 {
		units, acts := r.IntN(40), someCartActs(r, r.IntN(40), 5, 8, 30)
		told, carts, _ := impl.CartRun(units, acts)
		var others []impl.CartAct
		for _, act := range acts {
			if act.Cart > 0 {
				act.Cart = impl.MaxLotNo + 1 - act.Cart
			}
			others = append(others, act)
		}
		for i := range carts.Holds {
			carts.Holds[i].Cart = impl.MaxLotNo + 1 - carts.Holds[i].Cart
			carts.Holds[i].Until += 60
		}
		carts.Now += 60
		later, laterCarts, code := impl.CartRun(units, cartsAhead(cartActs(minutesOn(60)), others...))
		if code != impl.OK || !slices.Equal(later[1:], told) || !sameCarts(laterCarts, carts) {
			t.Fatalf("CartRun%s = %v, %+v; an hour later, with other numbers %v, %+v", cartsSaid(units, acts), told, carts, later[1:], laterCarts)
		}
	}
}

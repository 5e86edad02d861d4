package tests

import (
	"fmt"
	"math"
	"math/rand/v2"
	"slices"
	"strings"
	"testing"

	"loop.example/g00067/impl"
)

// unitsByWords: Count times the units of the pack Of, found by name each time.
func unitsByWords(packs []impl.Pack, name string) int {
	for _, p := range packs {
		if p.Name != name {
			continue
		}
		if p.Of == "" {
			return p.Count
		}
		return p.Count * unitsByWords(packs, p.Of)
	}
	return -1
}

// unpackByWords takes one pack at a time, the greatest that is not more than what is left.
func unpackByWords(sizes []int, units int) ([]int, int) {
	counts := make([]int, len(sizes))
	for {
		best := -1
		for i := len(sizes) - 1; i >= 0; i-- {
			if sizes[i] <= units && (best < 0 || sizes[i] >= sizes[best]) {
				best = i
			}
		}
		if best < 0 {
			return counts, units
		}
		counts[best]++
		units -= sizes[best]
	}
}

func somePacks(r *rand.Rand) []impl.Pack {
	packs := make([]impl.Pack, 0, impl.MaxPacks)
	for i := range r.IntN(impl.MaxPacks + 1) {
		p := impl.Pack{Name: fmt.Sprintf("p%d", i), Count: 1 + r.IntN(12)}
		if r.IntN(20) == 0 {
			p.Count = 1 + r.IntN(1000)
		}
		if i > 0 && r.IntN(3) > 0 {
			p.Of = packs[r.IntN(i)].Name
		}
		if unitsByWords(append(packs, p), p.Name) > impl.MaxUnits {
			p.Of = ""
		}
		packs = append(packs, p)
	}
	return packs
}

// singles are count packs of that many units each, with names of their own.
func singles(count, units int) []impl.Pack {
	packs := make([]impl.Pack, count)
	for i := range packs {
		packs[i] = impl.Pack{Name: fmt.Sprintf("s%d", i), Count: units}
	}
	return packs
}

func TestP3PacksByHand(t *testing.T) {
	packs := []impl.Pack{{Name: "six", Count: 6}, {Name: "tray", Of: "six", Count: 4}, {Name: "pallet", Of: "tray", Count: 100}, {Name: "pair", Count: 2}, {Name: "lot", Of: "pair", Count: 3}, {Name: "same", Of: "pallet", Count: 1}}
	sizes, code, who := impl.PackUnits(packs)
	if code != impl.OK || who != "" || !slices.Equal(sizes, []int{6, 24, 2400, 2, 6, 2400}) {
		t.Fatal("PackUnits", sizes, code, who)
	}
	for _, c := range []struct {
		units, left int
		want        []int
	}{
		{0, 0, []int{0, 0, 0, 0, 0, 0}}, {1, 1, []int{0, 0, 0, 0, 0, 0}}, {2, 0, []int{0, 0, 0, 1, 0, 0}}, {5, 1, []int{0, 0, 0, 2, 0, 0}}, {6, 0, []int{1, 0, 0, 0, 0, 0}}, {11, 1, []int{1, 0, 0, 2, 0, 0}},
		{23, 1, []int{3, 0, 0, 2, 0, 0}}, {24, 0, []int{0, 1, 0, 0, 0, 0}}, {59, 1, []int{1, 2, 0, 2, 0, 0}}, {2399, 1, []int{3, 99, 0, 2, 0, 0}}, {2400, 0, []int{0, 0, 1, 0, 0, 0}}, {4801, 1, []int{0, 0, 2, 0, 0, 0}},
		{impl.MaxUnits, 0, []int{2, 66, 416, 2, 0, 0}},
	} {
		if n, left, code := impl.Unpack(packs, c.units); code != impl.OK || left != c.left || !slices.Equal(n, c.want) {
			t.Errorf("Unpack of %d = %v, %d, %d; not %v, %d", c.units, n, left, code, c.want, c.left)
		}
	}
}

func TestP3UnitsInPacksAreAsManyAsBefore(t *testing.T) {
	r := fixed()
	for range 3000 {
		packs := somePacks(r)
		sizes, code, who := impl.PackUnits(packs)
		if code != impl.OK || who != "" || len(sizes) != len(packs) {
			t.Fatalf("PackUnits(%v) = %v, %d, %q", packs, sizes, code, who)
		}
		for i, p := range packs {
			if sizes[i] != unitsByWords(packs, p.Name) {
				t.Fatalf("PackUnits(%v)[%d] = %d, not %d", packs, i, sizes[i], unitsByWords(packs, p.Name))
			}
		}
		units := r.IntN(impl.MaxUnits+1) >> r.IntN(20)
		counts, left, code := impl.Unpack(packs, units)
		sum := left
		for i, n := range counts {
			sum += n * sizes[i]
		}
		if code != impl.OK || sum != units || len(counts) != len(packs) {
			t.Fatalf("Unpack(%v, %d) = %v, %d, %d: %d units", packs, units, counts, left, code, sum)
		}
		if want, rest := unpackByWords(sizes, units); !slices.Equal(counts, want) || left != rest {
			t.Fatalf("Unpack(%v, %d) = %v, %d; not %v, %d", packs, units, counts, left, want, rest)
		}
	}
}

func TestPacksOfAlikeSize(t *testing.T) {
	packs := []impl.Pack{{Name: "a", Count: 3}, {Name: "b", Count: 6}, {Name: "c", Of: "a", Count: 2}, {Name: "d", Count: 6}, {Name: "e", Count: 1}, {Name: "f", Of: "e", Count: 1}}
	for _, c := range []struct {
		units int
		want  []int
	}{{6, []int{0, 1, 0, 0, 0, 0}}, {12, []int{0, 2, 0, 0, 0, 0}}, {16, []int{1, 2, 0, 0, 1, 0}}, {5, []int{1, 0, 0, 0, 2, 0}}} {
		if n, left, code := impl.Unpack(packs, c.units); code != impl.OK || left != 0 || !slices.Equal(n, c.want) {
			t.Errorf("Unpack of %d = %v, %d, %d; not %v", c.units, n, left, code, c.want)
		}
	}
}

func TestPacksThatFillTheirBounds(t *testing.T) {
	for _, c := range []struct {
		packs []impl.Pack
		sizes []int
	}{
		{nil, nil}, {[]impl.Pack{}, nil}, {[]impl.Pack{{Name: "a", Count: 1}}, []int{1}}, {[]impl.Pack{{Name: "a", Count: 1000}}, []int{1000}}, {singles(impl.MaxPacks, 7), alike(7, impl.MaxPacks)},
		{[]impl.Pack{{Name: "a", Count: 1000}, {Name: "b", Of: "a", Count: 1000}, {Name: "c", Of: "b", Count: 1}, {Name: "d", Of: "c", Count: 1}}, []int{1000, impl.MaxUnits, impl.MaxUnits, impl.MaxUnits}},
		{[]impl.Pack{{Name: strings.Repeat("ä", impl.MaxName/2), Count: 2}, {Name: "_", Of: strings.Repeat("ä", impl.MaxName/2), Count: 3}}, []int{2, 6}},
		{[]impl.Pack{{Name: "a", Count: 2}, {Name: "A", Of: "a", Count: 3}, {Name: "aa", Of: "A", Count: 5}}, []int{2, 6, 30}},
	} {
		if sizes, code, who := impl.PackUnits(c.packs); code != impl.OK || who != "" || !slices.Equal(sizes, c.sizes) {
			t.Errorf("PackUnits(%v) = %v, %d, %q; not %v", c.packs, sizes, code, who, c.sizes)
		}
		for _, units := range []int{0, 1, 6, impl.MaxUnits - 1, impl.MaxUnits} {
			counts, left, code := impl.Unpack(c.packs, units)
			if want, rest := unpackByWords(c.sizes, units); code != impl.OK || !slices.Equal(counts, want) || left != rest {
				t.Errorf("Unpack(%v, %d) = %v, %d, %d; not %v, %d", c.packs, units, counts, left, code, want, rest)
			}
		}
	}
}

// faultyPacks has a list for each fault and for each two of which one comes first.
func faultyPacks() []struct {
	packs []impl.Pack
	code  int
	who   string
} {
	long := strings.Repeat("n", impl.MaxName+1)
	return []struct {
		packs []impl.Pack
		code  int
		who   string
	}{
		{singles(impl.MaxPacks+1, 1), impl.ErrMany, ""}, {make([]impl.Pack, impl.MaxPacks+1), impl.ErrMany, ""}, {make([]impl.Pack, impl.MaxList), impl.ErrMany, ""}, {make([]impl.Pack, impl.MaxList+1), impl.ErrLong, ""}, {singles(2*impl.MaxList, 1), impl.ErrLong, ""},
		{[]impl.Pack{{}}, impl.ErrBad, ""}, {[]impl.Pack{{Count: 1}}, impl.ErrBad, ""}, {[]impl.Pack{{Name: "9", Count: 1}}, impl.ErrBad, "9"}, {[]impl.Pack{{Name: "a b", Count: 1}}, impl.ErrBad, "a b"}, {[]impl.Pack{{Name: long, Count: 1}}, impl.ErrBad, long}, {[]impl.Pack{{Name: "\xff", Count: 1}}, impl.ErrBad, "\xff"},
		{[]impl.Pack{{Name: strings.Repeat("n", impl.MaxText+1), Count: 1}}, impl.ErrBad, strings.Repeat("n", impl.MaxText+1)},
		{[]impl.Pack{{Name: "a"}}, impl.ErrBad, "a"}, {[]impl.Pack{{Name: "a", Count: -1}}, impl.ErrBad, "a"}, {[]impl.Pack{{Name: "a", Count: 1001}}, impl.ErrBad, "a"}, {[]impl.Pack{{Name: "a", Count: math.MaxInt}}, impl.ErrBad, "a"}, {[]impl.Pack{{Name: "a", Count: math.MinInt}}, impl.ErrBad, "a"},
		{[]impl.Pack{{Name: "a", Count: 1}, {Name: "a", Count: 2}}, impl.ErrTwice, "a"}, {[]impl.Pack{{Name: "a", Count: 1}, {Name: "b", Count: 1}, {Name: "a", Of: "b", Count: 2}}, impl.ErrTwice, "a"},
		{[]impl.Pack{{Name: "a", Of: "a", Count: 1}}, impl.ErrName, "a"}, {[]impl.Pack{{Name: "a", Of: "b", Count: 1}, {Name: "b", Count: 1}}, impl.ErrName, "a"}, {[]impl.Pack{{Name: "a", Count: 1}, {Name: "b", Of: "c", Count: 1}}, impl.ErrName, "b"}, {[]impl.Pack{{Name: "a", Count: 1}, {Name: "b", Of: "A", Count: 1}}, impl.ErrName, "b"},
		{[]impl.Pack{{Name: "a", Count: 1}, {Name: "b", Of: "a ", Count: 1}}, impl.ErrName, "b"}, {[]impl.Pack{{Name: "a", Count: 1}, {Name: "b", Of: "\xff", Count: 1}}, impl.ErrName, "b"}, {[]impl.Pack{{Name: "a", Count: 1}, {Name: "b", Of: strings.Repeat("a", impl.MaxText+1), Count: 1}}, impl.ErrName, "b"},
		{[]impl.Pack{{Name: "a", Count: 1000}, {Name: "b", Of: "a", Count: 1000}, {Name: "c", Of: "b", Count: 2}}, impl.ErrOver, "c"}, {[]impl.Pack{{Name: "a", Count: 101}, {Name: "b", Of: "a", Count: 100}, {Name: "c", Of: "b", Count: 100}}, impl.ErrOver, "c"}, {[]impl.Pack{{Name: "a", Count: 1000}, {Name: "b", Of: "a", Count: 1000}, {Name: "c", Of: "b", Count: 1000}}, impl.ErrOver, "c"},
		// Of two faults of one pack the first named counts.
		{[]impl.Pack{{Name: "a", Count: 1}, {Name: "a", Count: 0}}, impl.ErrBad, "a"}, {[]impl.Pack{{Name: "a", Of: "x", Count: 0}}, impl.ErrBad, "a"}, {[]impl.Pack{{Name: "a", Count: 1}, {Name: "a", Of: "x", Count: 1}}, impl.ErrTwice, "a"}, {[]impl.Pack{{Name: "a", Count: 1}, {Name: "a", Of: "a", Count: 1}}, impl.ErrTwice, "a"},
		{[]impl.Pack{{Name: "a", Count: 1000}, {Name: "b", Of: "a", Count: 1000}, {Name: "a", Of: "b", Count: 1000}}, impl.ErrTwice, "a"}, {[]impl.Pack{{Name: "a", Count: 1000}, {Name: "b", Of: "a", Count: 1000}, {Name: "c", Of: "b", Count: 1001}}, impl.ErrBad, "c"}, {[]impl.Pack{{Name: "a", Count: 1000}, {Name: "b", Of: "a", Count: 1000}, {Name: "9", Of: "b", Count: 2}}, impl.ErrBad, "9"},
		// Of two packs with a fault the first in the list counts, whatever its fault.
		{[]impl.Pack{{Name: "a", Of: "x", Count: 1}, {Name: "9", Count: 1}}, impl.ErrName, "a"}, {[]impl.Pack{{Name: "a", Count: 1}, {Name: "a", Count: 1}, {Name: "b", Count: 0}}, impl.ErrTwice, "a"}, {[]impl.Pack{{Name: "a", Count: 1}, {Name: "b", Of: "x", Count: 1}, {Name: "a", Count: 1}}, impl.ErrName, "b"},
		{[]impl.Pack{{Name: "a", Count: 1000}, {Name: "b", Of: "a", Count: 1000}, {Name: "c", Of: "b", Count: 2}, {Name: "d", Of: "c", Count: 0}}, impl.ErrOver, "c"}, {append(singles(impl.MaxPacks, 1), impl.Pack{}), impl.ErrMany, ""}, {append(singles(impl.MaxPacks-1, 1), impl.Pack{Name: "s0", Count: 1}), impl.ErrTwice, "s0"},
	}
}

func TestPackFaults(t *testing.T) {
	for i, c := range faultyPacks() {
		if sizes, code, who := impl.PackUnits(c.packs); len(sizes) != 0 || code != c.code || who != c.who {
			t.Errorf("case %d: PackUnits = %v, %d, %.50q; not %d, %.50q", i, sizes, code, who, c.code, c.who)
		}
		// The packs' fault comes ahead of that of the units.
		for _, units := range []int{0, 100, impl.MaxUnits, impl.MaxUnits + 1, -1, math.MinInt} {
			if n, left, code := impl.Unpack(c.packs, units); len(n) != 0 || left != 0 || code != c.code {
				t.Errorf("case %d: Unpack of %d = %v, %d, %d; not %d", i, units, n, left, code, c.code)
			}
		}
	}
}

func TestUnitsOutOfBounds(t *testing.T) {
	for _, packs := range [][]impl.Pack{nil, {{Name: "a", Count: 1}}, {{Name: "a", Count: 1000}, {Name: "b", Of: "a", Count: 1000}}, singles(impl.MaxPacks, 3)} {
		for _, units := range []int{-1, -impl.MaxUnits, impl.MaxUnits + 1, 1 << 32, math.MaxInt, math.MinInt} {
			if n, left, code := impl.Unpack(packs, units); len(n) != 0 || left != 0 || code != impl.ErrRange {
				t.Errorf("Unpack of %d = %v, %d, %d; not ErrRange", units, n, left, code)
			}
		}
	}
}

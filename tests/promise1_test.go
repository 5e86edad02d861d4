package tests

import (
	"fmt"
	"math"
	"slices"
	"strings"
	"sync"
	"testing"

	"loop.example/g00067/impl"
)

func oddNumbers() []int {
	return []int{math.MinInt, math.MinInt + 1, math.MinInt32, -most - 1, -most, -most + 1, -10001, -1, 0, 1, 2, 3, 4, 5, 60, 100, 999, 1000, 1001, 9999, 10000, 10001, 1000000, 1000001, most - 1, most, most + 1, math.MaxInt32, 1 << 32, math.MaxInt - 1, math.MaxInt}
}

func oddTexts() []string {
	return []string{"", "-", ".", "0.00", "-0.05", "12.34", "ok", "short", "\x00", "\xff", "\xc3", "käse", "10000000.01", "96385074", "4006381333931", "2012345006782", strings.Repeat("9", impl.MaxText), strings.Repeat("9", impl.MaxText+1), strings.Repeat("\xff", 2*impl.MaxText)}
}

func oddLists() [][]int {
	lists := [][]int{nil, {}, {0}, {1}, {1, 1, 1}, {3, 0, 5}, {math.MaxInt, math.MaxInt}, {math.MinInt}, alike(1, impl.MaxShares), alike(1, impl.MaxShares+1), alike(0, impl.MaxList), alike(math.MinInt, impl.MaxList+1)}
	for _, n := range oddNumbers() {
		lists = append(lists, []int{1, n})
	}
	return lists
}

func oddRates() []impl.Rate {
	var rates []impl.Rate
	for _, n := range []int{math.MinInt, -1, 0, 1, 2, 9999, 10000, 10001, math.MaxInt} {
		for _, d := range []int{math.MinInt, -1, 0, 1, 2, 9999, 10000, 10001, math.MaxInt} {
			rates = append(rates, impl.Rate{N: n, D: d})
		}
	}
	return rates
}

func oddScans() []impl.Scan {
	var scans []impl.Scan
	for _, kind := range []int{math.MinInt, -1, 0, 1, 2, 3, 4, math.MaxInt} {
		for _, article := range append(oddTexts(), "12345", "96385074", "2012345006782") {
			for _, value := range []int{math.MinInt, -1, 0, 1, 99999, 100000, math.MaxInt} {
				scans = append(scans, impl.Scan{Kind: kind, Article: article, Value: value})
			}
		}
	}
	return scans
}

func oddPacks() [][]impl.Pack {
	lists := [][]impl.Pack{nil, {}, {{Name: "six", Count: 6}, {Name: "tray", Of: "six", Count: 4}}}
	for _, c := range faultyPacks() {
		lists = append(lists, c.packs)
	}
	for _, text := range oddTexts() {
		for _, n := range oddNumbers() {
			lists = append(lists, []impl.Pack{{Name: text, Count: n}}, []impl.Pack{{Name: "a", Count: 1000}, {Name: "b", Of: text, Count: n}})
		}
	}
	return lists
}

// mustBeZero: a code other than 0 means that all else is zero.
func mustBeZero(t *testing.T, what string, code int, zero bool) {
	t.Helper()
	if impl.CodeWord(code) == "" {
		t.Errorf("%s: %d is no code", what, code)
	}
	if code != impl.OK && !zero {
		t.Errorf("%s: code %d with an answer", what, code)
	}
}

func TestP1NumbersOfAnySizeAreAnswered(t *testing.T) {
	for _, amount := range oddNumbers() {
		impl.CodeWord(amount)
		text, code := impl.MoneyText(amount)
		mustBeZero(t, "MoneyText", code, text == "")
		for _, step := range oddNumbers() {
			n, code := impl.Cash(amount, step)
			mustBeZero(t, "Cash", code, n == 0)
		}
		for _, list := range oddLists() {
			parts, code := impl.Share(amount, list)
			mustBeZero(t, "Share", code, len(parts) == 0)
		}
	}
}

func TestP1RatesOfAnySizeAreAnswered(t *testing.T) {
	someModes := []int{math.MinInt, -1, 0, 1, 2, 3, 4, 5, math.MaxInt}
	for _, amount := range []int{math.MinInt, -most - 1, -most, -1, 0, 1, 7, most, most + 1, math.MaxInt} {
		for _, from := range oddRates() {
			for _, mode := range someModes {
				n, code := impl.Part(amount, from, mode)
				mustBeZero(t, "Part", code, n == 0)
				for _, to := range oddRates() {
					n, code := impl.Exchange(amount, from, to, mode)
					mustBeZero(t, "Exchange", code, n == 0)
				}
			}
		}
	}
}

func TestP1TextsOfAnyBytesAreAnswered(t *testing.T) {
	for _, text := range oddTexts() {
		impl.NameOK(text)
		impl.CodeOf(text)
		n, code := impl.ReadMoney(text)
		mustBeZero(t, "ReadMoney", code, n == 0)
		digit, code := impl.CheckDigit(text)
		mustBeZero(t, "CheckDigit", code, digit == 0)
		scan, code := impl.ReadScan(text)
		mustBeZero(t, "ReadScan", code, scan == impl.Scan{})
	}
}

func TestP1ScansAndPacksOfAnyKindAreAnswered(t *testing.T) {
	for _, scan := range oddScans() {
		text, code := impl.MakeScan(scan)
		mustBeZero(t, "MakeScan", code, text == "")
	}
	for _, packs := range oddPacks() {
		sizes, code, who := impl.PackUnits(packs)
		mustBeZero(t, "PackUnits", code, len(sizes) == 0)
		if code == impl.OK && who != "" {
			t.Errorf("PackUnits(%v) tells %q without a fault", packs, who)
		}
		for _, units := range oddNumbers() {
			counts, left, code := impl.Unpack(packs, units)
			mustBeZero(t, "Unpack", code, len(counts) == 0 && left == 0)
		}
	}
}

func TestP1NoArgumentIsChanged(t *testing.T) {
	for _, amount := range []int{1000, -10, 0, most, -most, most + 1} {
		for _, list := range oddLists() {
			held := append(slices.Clone(list), 77, 78, 79) // what stands behind the end of the argument
			before := slices.Clone(held)
			impl.Share(amount, held[:len(list)])
			if !slices.Equal(held, before) {
				t.Fatalf("Share(%d) changed what it was given", amount)
			}
		}
	}
}

func TestP1NoPackIsChanged(t *testing.T) {
	for _, packs := range oddPacks() {
		held := append(slices.Clone(packs), impl.Pack{Name: "behind", Of: "the", Count: 78}) // what stands behind the end of the argument
		before := slices.Clone(held)
		impl.PackUnits(held[:len(packs)])
		impl.Unpack(held[:len(packs)], 59)
		if !slices.Equal(held, before) {
			t.Fatalf("packs that were given are changed: %v", held)
		}
	}
}

func TestP1EachAnswerOfPacksIsNewMemory(t *testing.T) {
	packs := []impl.Pack{{Name: "six", Count: 6}, {Name: "tray", Of: "six", Count: 4}}
	for range 2 {
		sizes, _, _ := impl.PackUnits(packs)
		counts, _, _ := impl.Unpack(packs, 30)
		if !slices.Equal(sizes, []int{6, 24}) || !slices.Equal(counts, []int{1, 1}) {
			t.Fatal("an answer is kept", sizes, counts)
		}
		for i := range packs {
			sizes[i], counts[i] = -1, -1
		}
	}
}

func TestP1EachAnswerIsNewMemory(t *testing.T) {
	weights := []int{500, 300, 200}
	first, _ := impl.Share(1000, weights)
	second, _ := impl.Share(1000, weights)
	for i := range first {
		first[i] = -1
	}
	first = append(first[:0], 9, 9, 9)
	if !slices.Equal(weights, []int{500, 300, 200}) || !slices.Equal(second, []int{500, 300, 200}) {
		t.Error("an answer shares memory", weights, first, second)
	}
	third, code := impl.Share(1000, weights)
	if code != impl.OK || !slices.Equal(third, []int{500, 300, 200}) {
		t.Error("an answer is kept", third, code)
	}
}

// answers tells all that these calls say, in one text.
func answers(backwards bool) []string {
	var calls []func() string
	for _, n := range oddNumbers() {
		calls = append(calls, func() string { return fmt.Sprint(impl.CodeWord(n)) })
		calls = append(calls, func() string { return fmt.Sprint(impl.MoneyText(n)) })
		calls = append(calls, func() string { return fmt.Sprint(impl.Cash(n, 5)) })
		for _, mode := range []int{0, 1, 2, 3, 4, 5} {
			calls = append(calls, func() string { return fmt.Sprint(impl.Part(n, impl.Rate{N: 1, D: 2}, mode)) })
			calls = append(calls, func() string {
				return fmt.Sprint(impl.Exchange(n, impl.Rate{N: 1, D: 3}, impl.Rate{N: 2, D: 5}, mode))
			})
		}
		for _, list := range oddLists() {
			calls = append(calls, func() string { return fmt.Sprint(impl.Share(n, list)) })
		}
	}
	for _, text := range oddTexts() {
		calls = append(calls, func() string { return fmt.Sprint(impl.NameOK(text), impl.CodeOf(text)) })
		calls = append(calls, func() string { return fmt.Sprint(impl.ReadMoney(text)) })
		calls = append(calls, func() string { return fmt.Sprint(impl.CheckDigit(text)) })
		calls = append(calls, func() string { return fmt.Sprint(impl.ReadScan(text)) })
	}
	for _, scan := range oddScans() {
		calls = append(calls, func() string { return fmt.Sprint(impl.MakeScan(scan)) })
	}
	for _, packs := range oddPacks() {
		calls = append(calls, func() string { return fmt.Sprint(impl.PackUnits(packs)) })
		calls = append(calls, func() string { return fmt.Sprint(impl.Unpack(packs, 59)) })
	}
	for _, rate := range oddRates() {
		calls = append(calls, func() string { return fmt.Sprint(impl.RateOK(rate)) })
	}
	said := make([]string, len(calls))
	for i := range calls {
		if backwards {
			i = len(calls) - 1 - i
		}
		said[i] = calls[i]()
	}
	return said
}

func TestP1AlikeArgumentsHaveAlikeAnswers(t *testing.T) {
	want := answers(false)
	if !slices.Equal(answers(true), want) {
		t.Error("answers hang on what was called ahead")
	}
	var wait sync.WaitGroup
	for range 4 {
		wait.Go(func() {
			if !slices.Equal(answers(false), want) {
				t.Error("answers hang on what runs beside")
			}
		})
	}
	wait.Wait()
}

func TestP1AnEmptyListAndNilAreTheSame(t *testing.T) {
	for _, amount := range oddNumbers() {
		n, leftN, codeN := impl.Unpack(nil, amount)
		e, leftE, codeE := impl.Unpack([]impl.Pack{}, amount)
		if len(n) != 0 || len(e) != 0 || leftN != leftE || codeN != codeE {
			t.Errorf("Unpack of %d: %v, %d, %d of nil; %v, %d, %d of an empty list", amount, n, leftN, codeN, e, leftE, codeE)
		}
		a, codeA := impl.Share(amount, nil)
		b, codeB := impl.Share(amount, []int{})
		if len(a) != 0 || len(b) != 0 || codeA != codeB {
			t.Errorf("Share(%d): %v, %d of nil; %v, %d of an empty list", amount, a, codeA, b, codeB)
		}
	}
}

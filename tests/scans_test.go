package tests

import (
	"fmt"
	"math"
	"math/rand/v2"
	"strings"
	"testing"

	"loop.example/g00067/impl"
)

// balances: with its check digit behind it, which counts once, digits come to a multiple of 10.
func balances(code string) bool {
	sum := 0
	for i := range len(code) {
		times := 1
		if (len(code)-1-i)%2 == 1 {
			times = 3
		}
		sum += times * int(code[i]-'0')
	}
	return sum%10 == 0
}

func closing(digits string) string {
	for d := range 10 {
		if code := digits + fmt.Sprint(d); balances(code) {
			return code
		}
	}
	panic("each sum has its digit")
}

func someDigits(r *rand.Rand, count int) string {
	digits := ""
	for range count {
		digits += fmt.Sprint(r.IntN(10))
	}
	return digits
}

// someScans has codes of each kind and length, with what they say.
func someScans(r *rand.Rand, count int) map[string]impl.Scan {
	scans := map[string]impl.Scan{}
	for range count {
		short := closing(someDigits(r, 7))
		scans[short] = impl.Scan{Kind: impl.ScUnit, Article: short}
		long := closing(string("013456789"[r.IntN(9)]) + someDigits(r, 11))
		scans[long] = impl.Scan{Kind: impl.ScUnit, Article: long}
		article, value := someDigits(r, 5), r.IntN(100000)>>r.IntN(17)
		scans[closing(fmt.Sprintf("20%s%05d", article, value))] = impl.Scan{Kind: impl.ScGrams, Article: article, Value: value}
		scans[closing(fmt.Sprintf("21%s%05d", article, value))] = impl.Scan{Kind: impl.ScPrice, Article: article, Value: value}
	}
	return scans
}

func TestArticleBounds(t *testing.T) {
	if impl.ScUnit != 1 || impl.ScGrams != 2 || impl.ScPrice != 3 || impl.MaxPacks != 30 || impl.MaxUnits != 1000000 {
		t.Error("bounds", impl.ScUnit, impl.ScGrams, impl.ScPrice, impl.MaxPacks, impl.MaxUnits)
	}
}

func TestCheckDigitsByHand(t *testing.T) {
	for _, c := range []struct {
		digits string
		want   int
	}{
		{"400638133393", 1}, {"9638507", 4}, {"123456789012", 8}, {"00000000000", 0}, {"0", 0}, {"1", 7}, {"2", 4}, {"3", 1}, {"4", 8}, {"9", 3},
		{"10", 9}, {"01", 7}, {"31", 4}, {"13", 0}, {"71", 0}, {"24", 6}, {"99", 4}, {"100", 7}, {"001", 7}, {"010", 9}, {"999", 7},
		{"99999999999999999", 5}, {"10000000000000000", 7}, {"00000000000000001", 7}, {"01000000000000000", 9}, {"12345678901234567", 5},
	} {
		if n, code := impl.CheckDigit(c.digits); n != c.want || code != impl.OK {
			t.Errorf("CheckDigit(%q) = %d, %d; not %d", c.digits, n, code, c.want)
		}
	}
}

func TestP3CheckDigitsBalance(t *testing.T) {
	r := fixed()
	met := [10]int{}
	for range 3000 {
		for count := 1; count <= 17; count++ {
			digits := someDigits(r, count)
			n, code := impl.CheckDigit(digits)
			if want := closing(digits); code != impl.OK || digits+fmt.Sprint(n) != want {
				t.Fatalf("CheckDigit(%q) = %d, %d; not that of %q", digits, n, code, want)
			}
			met[n]++
		}
	}
	for n, times := range met {
		if times == 0 {
			t.Error("no digits with the check digit", n)
		}
	}
}

func textsThatAreNoDigits(count int) []string {
	nines := strings.Repeat("9", count-1)
	return []string{nines + "x", "x" + nines, nines + " ", " " + nines, "-" + nines, "+" + nines, nines + "/", nines + ":", "/" + nines, ":" + nines, nines + "\x00", "\xff" + nines, nines + "\xb2", nines + "\n", nines[:count/2] + "." + nines[count/2:]}
}

func TestCheckDigitFaults(t *testing.T) {
	bad := []string{"", strings.Repeat("0", 18), strings.Repeat("9", 19), strings.Repeat("1", 40), "x", "-", "-1", "1-", "\u0661", "\uff11", "1\u0660", "1\xe2\x82", "0x1", "1e1", strings.Repeat("1", impl.MaxText), strings.Repeat("\xff", impl.MaxText)}
	for count := 1; count <= 17; count++ {
		bad = append(bad, textsThatAreNoDigits(count)...)
	}
	for _, digits := range bad {
		if n, code := impl.CheckDigit(digits); n != 0 || code != impl.ErrSyntax {
			t.Errorf("CheckDigit of %d bytes %.24q = %d, %d; not ErrSyntax", len(digits), digits, n, code)
		}
	}
	for _, digits := range []string{strings.Repeat("1", impl.MaxText+1), strings.Repeat("x", impl.MaxText+1), strings.Repeat("\x00", 3*impl.MaxText)} {
		if n, code := impl.CheckDigit(digits); n != 0 || code != impl.ErrLong {
			t.Errorf("CheckDigit of %d bytes = %d, %d; not ErrLong", len(digits), n, code)
		}
	}
	// Each byte there is, alone and behind a digit.
	for b := range 256 {
		for _, digits := range []string{string([]byte{byte(b)}), string([]byte{'5', byte(b)}), string([]byte{byte(b), '5'})} {
			want := impl.ErrSyntax
			if b >= '0' && b <= '9' {
				want = impl.OK
			}
			if n, code := impl.CheckDigit(digits); code != want || code != impl.OK && n != 0 {
				t.Errorf("CheckDigit(%q) = %d, %d", digits, n, code)
			}
		}
	}
}

func TestScansByHand(t *testing.T) {
	for _, c := range []struct {
		text string
		want impl.Scan
	}{
		{"4006381333931", impl.Scan{Kind: 1, Article: "4006381333931"}}, {"96385074", impl.Scan{Kind: 1, Article: "96385074"}},
		{"00000000", impl.Scan{Kind: 1, Article: "00000000"}}, {"0000000000000", impl.Scan{Kind: 1, Article: "0000000000000"}},
		{"20000004", impl.Scan{Kind: 1, Article: "20000004"}}, {"21000003", impl.Scan{Kind: 1, Article: "21000003"}}, {"22000002", impl.Scan{Kind: 1, Article: "22000002"}},
		{"1200000000003", impl.Scan{Kind: 1, Article: "1200000000003"}}, {"0200000000004", impl.Scan{Kind: 1, Article: "0200000000004"}}, {"0210000000003", impl.Scan{Kind: 1, Article: "0210000000003"}},
		{"2000000000008", impl.Scan{Kind: 2, Article: "00000"}}, {"2100000000005", impl.Scan{Kind: 3, Article: "00000"}},
		{"2012345006782", impl.Scan{Kind: 2, Article: "12345", Value: 678}}, {"2112345006789", impl.Scan{Kind: 3, Article: "12345", Value: 678}},
		{"2000001000014", impl.Scan{Kind: 2, Article: "00001", Value: 1}}, {"2099999999998", impl.Scan{Kind: 2, Article: "99999", Value: 99999}}, {"2199999999995", impl.Scan{Kind: 3, Article: "99999", Value: 99999}},
		{"2000000100005", impl.Scan{Kind: 2, Article: "00000", Value: 10000}}, {"2000010000005", impl.Scan{Kind: 2, Article: "00010"}},
	} {
		if !balances(c.text) {
			t.Fatal("the case itself is wrong:", c.text)
		}
		if s, code := impl.ReadScan(c.text); s != c.want || code != impl.OK {
			t.Errorf("ReadScan(%q) = %v, %d; not %v", c.text, s, code, c.want)
		}
		if text, code := impl.MakeScan(c.want); text != c.text || code != impl.OK {
			t.Errorf("MakeScan(%v) = %q, %d; not %q", c.want, text, code, c.text)
		}
	}
}

func TestP3WhatIsMadeIsReadAsItWas(t *testing.T) {
	for text, want := range someScans(fixed(), 5000) {
		made, code := impl.MakeScan(want)
		if made != text || code != impl.OK {
			t.Fatalf("MakeScan(%v) = %q, %d; not %q", want, made, code, text)
		}
		if s, code := impl.ReadScan(made); s != want || code != impl.OK {
			t.Fatalf("ReadScan(%q) = %v, %d; not %v", made, s, code, want)
		}
	}
}

func TestP3OneDigitChangedIsFound(t *testing.T) {
	for text := range someScans(fixed(), 300) {
		for i := range len(text) {
			for d := byte('0'); d <= '9'; d++ {
				if text[i] == d {
					continue
				}
				changed := text[:i] + string(d) + text[i+1:]
				if s, code := impl.ReadScan(changed); s != (impl.Scan{}) || code != impl.ErrSum {
					t.Fatalf("ReadScan(%q) for %q = %v, %d; not ErrSum", changed, text, s, code)
				}
			}
		}
	}
}

// Each code of 13 digits that begins with 2 and another digit than 0 or 1 has no kind; its check digit is asked first.
func TestScansOfNoKind(t *testing.T) {
	r := fixed()
	for second := 2; second <= 9; second++ {
		for range 200 {
			text := closing(fmt.Sprintf("2%d%s", second, someDigits(r, 10)))
			if s, code := impl.ReadScan(text); s != (impl.Scan{}) || code != impl.ErrKind {
				t.Errorf("ReadScan(%q) = %v, %d; not ErrKind", text, s, code)
			}
			off := text[:12] + fmt.Sprint((int(text[12]-'0')+1)%10)
			if s, code := impl.ReadScan(off); s != (impl.Scan{}) || code != impl.ErrSum {
				t.Errorf("ReadScan(%q) = %v, %d; not ErrSum", off, s, code)
			}
			if made, code := impl.MakeScan(impl.Scan{Kind: impl.ScUnit, Article: text}); made != "" || code != impl.ErrBad {
				t.Errorf("MakeScan of the unit %q = %q, %d; not ErrBad", text, made, code)
			}
		}
	}
}

func TestScansThatAreNoDigits(t *testing.T) {
	bad := append(textsThatAreNoDigits(8), textsThatAreNoDigits(13)...)
	for count := 0; count <= 40; count++ {
		if count != 8 && count != 13 {
			bad = append(bad, strings.Repeat("0", count))
		}
	}
	bad = append(bad, "96385074 ", " 96385074", "4006381333931\n", "400638133393x", "400638133393", "40063813339311", "9638507\u0664", "\uff19638507", "\u0660\u0660\u0660\u0660", "0000000\u0660", "\u0660\u0660\u0660\u0660\u0660\u06600",
		strings.Repeat("0", impl.MaxText), strings.Repeat("x", impl.MaxText))
	for _, text := range bad {
		if s, code := impl.ReadScan(text); s != (impl.Scan{}) || code != impl.ErrSyntax {
			t.Errorf("ReadScan of %d bytes %.24q = %v, %d; not ErrSyntax", len(text), text, s, code)
		}
	}
	for _, text := range []string{strings.Repeat("0", impl.MaxText+1), strings.Repeat("x", impl.MaxText+1), "4006381333931" + strings.Repeat("\x00", impl.MaxText)} {
		if s, code := impl.ReadScan(text); s != (impl.Scan{}) || code != impl.ErrLong {
			t.Errorf("ReadScan of %d bytes = %v, %d; not ErrLong", len(text), s, code)
		}
	}
	for _, text := range []string{"4006381333932", "4006381333930", "96385075", "00000001", "0000000000001", "2000000000000", "2200000000003"} {
		if s, code := impl.ReadScan(text); s != (impl.Scan{}) || code != impl.ErrSum {
			t.Errorf("ReadScan(%q) = %v, %d; not ErrSum", text, s, code)
		}
	}
}

func TestScansThatNoCodeSays(t *testing.T) {
	bad := []impl.Scan{{}, {Kind: impl.ScUnit}, {Kind: impl.ScUnit, Article: "12345"}, {Kind: impl.ScUnit, Article: "12345", Value: 678}}
	for _, article := range []string{"4006381333931", "96385074", "20000004"} {
		for _, value := range []int{1, -1, 678, math.MaxInt, math.MinInt} {
			bad = append(bad, impl.Scan{Kind: impl.ScUnit, Article: article, Value: value})
		}
		for _, kind := range []int{impl.ScGrams, impl.ScPrice} {
			bad = append(bad, impl.Scan{Kind: kind, Article: article})
		}
	}
	for _, article := range []string{"4006381333932", "96385075", "2012345006782", "2112345006789", "2000000000008", "2100000000005", "2200000000002", "400638133393", "40063813339310", "9638507x", strings.Repeat("0", impl.MaxText), strings.Repeat("0", impl.MaxText+1)} {
		bad = append(bad, impl.Scan{Kind: impl.ScUnit, Article: article})
	}
	for _, kind := range []int{impl.ScGrams, impl.ScPrice} {
		for _, article := range []string{"", "1", "1234", "123456", "12345678", "1234567890", "1234x", "x2345", "12 45", "-1234", "+1234", "123\u0664", "\u0661\u0662\u0663\u0664\u0665", "1234\xff", "/2345", ":2345", "1234/", "1234:", "12345\x00", strings.Repeat("1", impl.MaxText+1)} {
			for _, value := range []int{0, 678, 1000000} {
				bad = append(bad, impl.Scan{Kind: kind, Article: article, Value: value})
			}
		}
		for _, value := range []int{-1, -678, 100000, 100001, 1000000, 1 << 32, math.MaxInt, math.MaxInt - 100000, math.MinInt, math.MinInt + 1} {
			bad = append(bad, impl.Scan{Kind: kind, Article: "12345", Value: value})
		}
	}
	for _, kind := range []int{0, -1, 4, 5, 256 + 2, 1<<32 + 2, math.MaxInt, math.MinInt} {
		for _, article := range []string{"12345", "4006381333931", "96385074", ""} {
			bad = append(bad, impl.Scan{Kind: kind, Article: article})
		}
	}
	for _, s := range bad {
		if text, code := impl.MakeScan(s); text != "" || code != impl.ErrBad {
			t.Errorf("MakeScan of kind %d, article of %d bytes %.16q, value %d = %q, %d; not ErrBad", s.Kind, len(s.Article), s.Article, s.Value, text, code)
		}
	}
}

// The edges of a value, for both kinds, through to what is read.
func TestP3TheGreatestAndTheLeastValue(t *testing.T) {
	for kind, head := range map[int]string{impl.ScGrams: "20", impl.ScPrice: "21"} {
		for _, article := range []string{"00000", "00001", "10000", "99999"} {
			for _, value := range []int{0, 1, 9, 10, 99, 100, 999, 1000, 9999, 10000, 99998, 99999} {
				want := closing(fmt.Sprintf("%s%s%05d", head, article, value))
				s := impl.Scan{Kind: kind, Article: article, Value: value}
				if text, code := impl.MakeScan(s); text != want || code != impl.OK {
					t.Errorf("MakeScan(%v) = %q, %d; not %q", s, text, code, want)
				}
				if back, code := impl.ReadScan(want); back != s || code != impl.OK {
					t.Errorf("ReadScan(%q) = %v, %d; not %v", want, back, code, s)
				}
			}
		}
	}
}

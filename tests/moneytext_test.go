package tests

import (
	"fmt"
	"math"
	"strings"
	"testing"

	"loop.example/g00067/impl"
)

func TestMoneyTexts(t *testing.T) {
	for _, c := range []struct {
		amount int
		text   string
	}{
		{0, "0.00"}, {1, "0.01"}, {5, "0.05"}, {10, "0.10"}, {99, "0.99"}, {100, "1.00"}, {101, "1.01"}, {1230, "12.30"}, {-1230, "-12.30"}, {-1, "-0.01"}, {-5, "-0.05"}, {-99, "-0.99"}, {-100, "-1.00"},
		{100000, "1000.00"}, {999999999, "9999999.99"}, {most, "10000000.00"}, {-most, "-10000000.00"},
	} {
		if text, code := impl.MoneyText(c.amount); text != c.text || code != impl.OK {
			t.Errorf("MoneyText(%d) = %q, %d", c.amount, text, code)
		}
		if n, code := impl.ReadMoney(c.text); n != c.amount || code != impl.OK {
			t.Errorf("ReadMoney(%q) = %d, %d", c.text, n, code)
		}
	}
	for _, amount := range []int{most + 1, -most - 1, math.MaxInt, math.MinInt} {
		if text, code := impl.MoneyText(amount); text != "" || code != impl.ErrBad {
			t.Errorf("MoneyText(%d) = %q, %d", amount, text, code)
		}
	}
}

func TestMoneyIsReadAsItWasWritten(t *testing.T) {
	r := fixed()
	for i := range 100000 {
		amount := anyAmount(r)
		if i <= 20000 {
			amount = i - 10000
		}
		size, sign := amount, ""
		if amount < 0 {
			size, sign = -amount, "-"
		}
		want := fmt.Sprintf("%s%d.%02d", sign, size/100, size%100)
		text, code := impl.MoneyText(amount)
		if text != want || code != impl.OK {
			t.Fatalf("MoneyText(%d) = %q, %d; not %q", amount, text, code, want)
		}
		if n, code := impl.ReadMoney(text); n != amount || code != impl.OK {
			t.Fatalf("ReadMoney(%q) = %d, %d; not %d", text, n, code, amount)
		}
	}
}

func TestMoneyThatStandsAgainstTheGrammar(t *testing.T) {
	for _, text := range []string{
		"", "-", ".", "-.", "0", "1", "12", "1.", "1.5", "1.555", ".50", "-.50", "1,00", "1.0a", "1.a0", "a.00", "1a.00", "1 .00", " 1.00", "1.00 ", "1.00\n", "1. 00", "1..00", "1.0.0", "1.00.", "1.00.00",
		"+1.00", "--1.00", "-+1.00", "1-.00", "1.-0", "1.-1", "- 1.00", "1.00-",
		"-0.00", "00.00", "00.01", "01.00", "-00.01", "-01.00", "-00.00", "000.00", "0000000000000001.00", "010000000.00", "000000000000000.00",
		"1000000000000000.00", "-9999999999999999.99", strings.Repeat("9", 18) + ".00", strings.Repeat("9", 40) + ".00", "99999999999999999999",
		"1.0\x00", "\x001.00", "1\xff.00", "1.0\xff", "1.\xc2\xb2", "\u0661.00", "1.\u0660\u0660", "\uff11.00", "1\u066b00", "1e5.00", "0x1.00", "1_0.00", "NaN", "-0.0", "-0", "0.0", "-0.000",
		strings.Repeat("1", impl.MaxText), strings.Repeat("0", impl.MaxText-3) + ".00", strings.Repeat("-", impl.MaxText), strings.Repeat("\xff", impl.MaxText),
	} {
		if n, code := impl.ReadMoney(text); n != 0 || code != impl.ErrSyntax {
			t.Errorf("ReadMoney of %d bytes %.24q = %d, %d; not ErrSyntax", len(text), text, n, code)
		}
	}
}

func TestMoneyThatIsTooGreatOrTooLong(t *testing.T) {
	for _, text := range []string{"10000000.01", "-10000000.01", "10000001.00", "99999999.99", "100000000.00", "100000000000000.00", "999999999999999.99", "-999999999999999.99", "-100000000000000.00"} {
		if n, code := impl.ReadMoney(text); n != 0 || code != impl.ErrOver {
			t.Errorf("ReadMoney(%q) = %d, %d; not ErrOver", text, n, code)
		}
	}
	for _, text := range []string{strings.Repeat("1", impl.MaxText+1), strings.Repeat("1", impl.MaxText-2) + ".00", "-" + strings.Repeat("0", impl.MaxText), strings.Repeat(" ", 3*impl.MaxText), "1.00" + strings.Repeat("\x00", impl.MaxText)} {
		if n, code := impl.ReadMoney(text); n != 0 || code != impl.ErrLong {
			t.Errorf("ReadMoney of %d bytes = %d, %d; not ErrLong", len(text), n, code)
		}
	}
}

// Every text of up to five bytes of those that matter is either what MoneyText writes or against the grammar.
func TestOnlyWhatIsWrittenIsRead(t *testing.T) {
	texts := []string{""}
	for range 5 {
		var longer []string
		for _, text := range texts {
			for _, b := range []string{"-", ".", "0", "1", "9", "+"} {
				longer = append(longer, text+b)
			}
		}
		for _, text := range longer {
			n, code := impl.ReadMoney(text)
			if back, _ := impl.MoneyText(n); code == impl.OK && back != text || code != impl.OK && (n != 0 || code != impl.ErrSyntax) {
				t.Fatalf("ReadMoney(%q) = %d, %d", text, n, code)
			}
		}
		texts = longer
	}
}

package tests

import (
	"math"
	"strings"
	"testing"
	"unicode/utf8"

	"loop.example/g00067/impl"
)

// codeRows is the document's table of codes, written out anew.
func codeRows() []struct {
	number, code int
	word         string
} {
	return []struct {
		number, code int
		word         string
	}{
		{0, impl.OK, "ok"}, {1, impl.ErrBad, "bad"}, {2, impl.ErrLong, "long"}, {3, impl.ErrForm, "form"}, {4, impl.ErrSyntax, "syntax"},
		{5, impl.ErrRange, "range"}, {6, impl.ErrName, "name"}, {7, impl.ErrTwice, "twice"}, {8, impl.ErrNone, "none"}, {9, impl.ErrMany, "many"},
		{10, impl.ErrZero, "zero"}, {11, impl.ErrOver, "over"}, {12, impl.ErrState, "state"}, {13, impl.ErrKind, "kind"}, {14, impl.ErrFull, "full"},
		{15, impl.ErrSum, "sum"}, {16, impl.ErrAge, "age"}, {17, impl.ErrLate, "late"}, {18, impl.ErrHeld, "held"}, {19, impl.ErrShort, "short"},
	}
}

func TestP1EachCodeHasItsWord(t *testing.T) {
	for _, row := range codeRows() {
		if row.code != row.number {
			t.Errorf("the code %s is %d, not %d", row.word, row.code, row.number)
		}
		if word := impl.CodeWord(row.number); word != row.word {
			t.Errorf("CodeWord(%d) = %q, not %q", row.number, word, row.word)
		}
		if code := impl.CodeOf(row.word); code != row.number {
			t.Errorf("CodeOf(%q) = %d, not %d", row.word, code, row.number)
		}
	}
}

func TestP1NoOtherNumberHasAWord(t *testing.T) {
	for _, code := range []int{-1, -19, 20, 21, 256, 1 << 32, 1<<32 + 1, math.MaxInt, math.MinInt} {
		if word := impl.CodeWord(code); word != "" {
			t.Errorf("CodeWord(%d) = %q", code, word)
		}
	}
}

func TestP1NoOtherTextHasACode(t *testing.T) {
	others := []string{"", " ", "x", "0", "OK", "Ok", "o", "okk", "ok ", " ok", "ok\n", "ok\x00", "bad\xff", "badlong", "shor", "shorts", "ErrBad",
		strings.Repeat("ok", impl.MaxText/2), strings.Repeat("a", impl.MaxText), strings.Repeat("a", impl.MaxText+1), "ok" + strings.Repeat(" ", 4*impl.MaxText)}
	for _, word := range others {
		if code := impl.CodeOf(word); code != -1 {
			t.Errorf("CodeOf of %d bytes %.20q = %d, not -1", len(word), word, code)
		}
	}
}

func TestGeneralBounds(t *testing.T) {
	if impl.MaxText != 65536 || impl.MaxList != 4096 || impl.MaxName != 40 {
		t.Error("bounds", impl.MaxText, impl.MaxList, impl.MaxName)
	}
}

// letterOf tells the letters of names from the document's words, apart from how the program does.
func letterOf(r rune) bool {
	if strings.ContainsRune("abcdefghijklmnopqrstuvwxyzABCDEFGHIJKLMNOPQRSTUVWXYZ_", r) {
		return true
	}
	in := r >= 0xC0 && r <= 0x24F || r >= 0x391 && r <= 0x3C9 || r >= 0x410 && r <= 0x44F
	return in && r != 0xD7 && r != 0xF7
}

func TestNamesRuneByRune(t *testing.T) {
	for r := rune(0); r <= utf8.MaxRune; r++ {
		if !utf8.ValidRune(r) {
			continue
		}
		digit := r >= '0' && r <= '9'
		if got := impl.NameOK(string(r)); got != letterOf(r) {
			t.Errorf("NameOK of the rune %#x alone is %v", r, got)
		}
		if got := impl.NameOK("a" + string(r) + "_"); got != (letterOf(r) || digit) {
			t.Errorf("NameOK of the rune %#x behind a letter is %v", r, got)
		}
	}
}

func TestNamesAtTheEndsOfTheirRanges(t *testing.T) {
	for _, c := range []struct {
		r    rune
		want bool
	}{
		{'@', false}, {'A', true}, {'Z', true}, {'[', false}, {'^', false}, {'_', true}, {'`', false}, {'a', true}, {'z', true}, {'{', false},
		{0xBF, false}, {0xC0, true}, {0xD6, true}, {0xD7, false}, {0xD8, true}, {0xF6, true}, {0xF7, false}, {0xF8, true}, {0x24F, true}, {0x250, false},
		{0x390, false}, {0x391, true}, {0x3A2, true}, {0x3C9, true}, {0x3CA, false}, {0x40F, false}, {0x410, true}, {0x44F, true}, {0x450, false},
		{0xAA, false}, {0x1E00, false}, {0xFFFD, false}, {0x1D400, false}, {'/', false}, {':', false}, {'-', false}, {'.', false}, {' ', false},
	} {
		for _, name := range []string{string(c.r), "a" + string(c.r), string(c.r) + "9"} {
			if got := impl.NameOK(name); got != c.want {
				t.Errorf("NameOK(%q) = %v", name, got)
			}
		}
	}
}

// Every text of one or of two bytes, so that no wrong encoding slips through.
func TestNamesByteByByte(t *testing.T) {
	for a := 0; a < 256; a++ {
		first := string([]byte{byte(a)})
		if got := impl.NameOK(first); got != (a < 128 && letterOf(rune(a))) {
			t.Errorf("NameOK(%q) = %v", first, got)
		}
		for b := 0; b < 256; b++ {
			pair := string([]byte{byte(a), byte(b)})
			if got := impl.NameOK(pair); got != nameOfTwoBytes(a, b) {
				t.Errorf("NameOK(%q) = %v", pair, got)
			}
		}
	}
}

func nameOfTwoBytes(a, b int) bool {
	if a < 128 {
		return letterOf(rune(a)) && b < 128 && (letterOf(rune(b)) || b >= '0' && b <= '9')
	}
	right := a >= 0xC2 && a <= 0xDF && b >= 0x80 && b <= 0xBF
	return right && letterOf(rune(a&0x1F)<<6|rune(b&0x3F))
}

func TestNamesThatAreWrong(t *testing.T) {
	for _, name := range []string{"", "9a", "0", "a b", " a", "a ", "a-b", "a\n", "a\x00", "\x00", "a\xc3", "\xc3", "\x80", "\xc1\x81", "\xe0\x83\x80", "\xf0\x80\x83\x80",
		"a\xff", "\xfea", "k\xe4se", "\xed\xa0\x80", "a\xe2\x82", "日本", "a日"} {
		if impl.NameOK(name) {
			t.Errorf("NameOK(%q)", name)
		}
	}
	for _, name := range []string{"a", "Z", "_", "__", "_9", "a0123456789", "käse", "Ärger", "ñ", "Ωmega", "Жук", "ɏ", "x1y2"} {
		if !impl.NameOK(name) {
			t.Errorf("not NameOK(%q)", name)
		}
	}
}

func TestNamesCountBytes(t *testing.T) {
	for _, c := range []struct {
		name string
		want bool
	}{
		{strings.Repeat("a", impl.MaxName), true}, {strings.Repeat("a", impl.MaxName+1), false},
		{strings.Repeat("ä", impl.MaxName/2), true}, {strings.Repeat("ä", impl.MaxName/2) + "a", false}, {strings.Repeat("ä", impl.MaxName/2+1), false},
		{strings.Repeat("a", impl.MaxName-1) + "ä", false}, {strings.Repeat("a", impl.MaxName-2) + "ä", true}, {"a" + strings.Repeat("9", impl.MaxName-1), true},
		{strings.Repeat("a", impl.MaxName-1) + "-", false}, {strings.Repeat("a", impl.MaxName-1) + "\xc3", false},
		{strings.Repeat("a", impl.MaxText), false}, {strings.Repeat("a", impl.MaxText+1), false},
	} {
		if got := impl.NameOK(c.name); got != c.want {
			t.Errorf("NameOK of %d bytes, %.6q .., = %v", len(c.name), c.name, got)
		}
	}
}

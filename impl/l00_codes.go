package impl

import "strings"

const (
	MaxText = 65536
	MaxList = 4096
	MaxName = 40

	OK        = 0
	ErrBad    = 1
	ErrLong   = 2
	ErrForm   = 3
	ErrSyntax = 4
	ErrRange  = 5
	ErrName   = 6
	ErrTwice  = 7
	ErrNone   = 8
	ErrMany   = 9
	ErrZero   = 10
	ErrOver   = 11
	ErrState  = 12
	ErrKind   = 13
	ErrFull   = 14
	ErrSum    = 15
	ErrAge    = 16
	ErrLate   = 17
	ErrHeld   = 18
	ErrShort  = 19
)

const maxDigits = 18 // of a number's text

// wordsOfCodes is the one list of the words: CodeWord and, by codeWords, CodeOf read it, so that each word is told back.
func wordsOfCodes() [ErrShort + 1]string {
	return [ErrShort + 1]string{
		OK:        "ok",
		ErrBad:    "bad",
		ErrLong:   "long",
		ErrForm:   "form",
		ErrSyntax: "syntax",
		ErrRange:  "range",
		ErrName:   "name",
		ErrTwice:  "twice",
		ErrNone:   "none",
		ErrMany:   "many",
		ErrZero:   "zero",
		ErrOver:   "over",
		ErrState:  "state",
		ErrKind:   "kind",
		ErrFull:   "full",
		ErrSum:    "sum",
		ErrAge:    "age",
		ErrLate:   "late",
		ErrHeld:   "held",
		ErrShort:  "short",
	}
}

var codeWords [ErrShort + 1]string

func init() { codeWords = wordsOfCodes() }

func NameOK(t string) bool {
	if len(t) < 1 || len(t) > MaxName {
		return false
	}
	// Bytes that are no right encoding come as the rune 0xFFFD, which is no letter.
	for at, r := range t {
		if !nameLetter(r) && (at == 0 || !digitRune(r)) {
			return false
		}
	}
	return true
}

func nameLetter(r rune) bool {
	switch {
	case r == '_', 'a' <= r && r <= 'z', 'A' <= r && r <= 'Z':
		return true
	case r == 0xD7, r == 0xF7: // the signs of multiplication and division lie among the letters
		return false
	}
	return 0xC0 <= r && r <= 0x24F || 0x391 <= r && r <= 0x3C9 || 0x410 <= r && r <= 0x44F
}

func digitRune(r rune) bool { return '0' <= r && r <= '9' }

func CodeWord(code int) string {
	if code < OK || code > ErrShort {
		return ""
	}
	return wordsOfCodes()[code]
}

func CodeOf(word string) int {
	for code := range codeWords {
		if codeWords[code] == word {
			return code
		}
	}
	return -1
}

func readNumber(t string) (int, bool) {
	digits, below := strings.CutPrefix(t, "-")
	if !wholeText(digits, maxDigits) || below && digits == "0" {
		return 0, false
	}
	return signed(digitsNumber(digits), below), true
}

// wholeText: at most longest digits, no nought ahead of another.
func wholeText(t string, longest int) bool {
	if len(t) < 1 || len(t) > longest || len(t) > 1 && t[0] == '0' {
		return false
	}
	return allDigits(t)
}

func allDigits(t string) bool {
	for _, r := range t {
		if !digitRune(r) {
			return false
		}
	}
	return true
}

func digitsNumber(digits string) int {
	n := 0
	for _, r := range digits {
		n = 10*n + int(r-'0')
	}
	return n
}

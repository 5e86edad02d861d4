package tests

import (
	"fmt"
	"math/rand/v2"
	"regexp"
	"slices"
	"strings"
	"testing"

	"loop.example/g00067/impl"
)

// partForm is what a part can be, as it is written; of bytes that are no UTF-8 each counts as one.
var partForm = regexp.MustCompile(`(?s)\A(?:[^+?']|\?[+?'])*`)

var marksBare = strings.NewReplacer("?+", "+", "??", "?", "?'", "'")

// partByWords reads a part whole, ahead of any fault within it: how long it is as it is written, or where it is at fault.
func partByWords(text string, at int) (part string, length, code, place int) {
	written := partForm.FindString(text[at:])
	part = marksBare.Replace(written)
	end := at + len(written)
	switch {
	case len(part) > 80:
		place = at + len(marksEscaped.Replace(part[:81])) - 1
		return "", 0, impl.ErrRange, place
	case end == len(text):
		return "", 0, impl.ErrSyntax, end
	case text[end] == '?':
		return "", 0, impl.ErrSyntax, end + 1
	}
	return part, len(written), impl.OK, 0
}

// segmentByWords reads the one that begins at a place, and tells where the next one begins.
func segmentByWords(text string, at int) (s impl.Segment, behind, code, place int) {
	for letter := range 3 {
		if here := at + letter; here == len(text) || text[here] < 'A' || text[here] > 'Z' {
			return s, 0, impl.ErrSyntax, here
		}
	}
	s.Tag = text[at : at+3]
	for at += 3; at < len(text); {
		switch text[at] {
		case '\'':
			return s, at + 1, impl.OK, 0
		case '+':
		default:
			return s, 0, impl.ErrSyntax, at
		}
		if len(s.Parts) == 20 {
			return s, 0, impl.ErrMany, at
		}
		part, length, code, place := partByWords(text, at+1)
		if code != impl.OK {
			return s, 0, code, place
		}
		s.Parts = append(s.Parts, part)
		at += 1 + length
	}
	return s, 0, impl.ErrSyntax, at
}

func readByWords(text string) ([]impl.Segment, int, int) {
	if len(text) > 65536 {
		return nil, impl.ErrLong, 0
	}
	var list []impl.Segment
	for at := 0; at < len(text); {
		if len(list) == 200 {
			return nil, impl.ErrMany, at
		}
		s, behind, code, place := segmentByWords(text, at)
		if code != impl.OK {
			return nil, code, place
		}
		list = append(list, s)
		at = behind
	}
	return list, impl.OK, 0
}

func wantReadSegments(t *testing.T, text string, want []impl.Segment, wantCode, wantPlace int) {
	t.Helper()
	list, code, place := impl.ReadSegments(text)
	if code != wantCode || place != wantPlace || !sameSegments(list, want) {
		t.Errorf("ReadSegments(%.300q) = %.300s, %d, %d; want %.300s, %d, %d", text, fmt.Sprintf("%q", list), code, place, fmt.Sprintf("%q", want), wantCode, wantPlace)
	}
}

func wantSegments(t *testing.T, text string, want []impl.Segment) {
	t.Helper()
	wantReadSegments(t, text, want, impl.OK, 0)
}

func wantNoSegments(t *testing.T, text string, wantCode, wantPlace int) {
	t.Helper()
	wantReadSegments(t, text, nil, wantCode, wantPlace)
}

func wantReadByWords(t *testing.T, text string) int {
	t.Helper()
	want, code, place := readByWords(text)
	wantReadSegments(t, text, want, code, place)
	return code
}

func segmentTextsWithFaults() []struct {
	text        string
	code, place int
} {
	full, marks := strings.Repeat("x", impl.MaxRemark), strings.Repeat("?'", impl.MaxRemark)
	parts := "ABC" + strings.Repeat("+p", impl.MaxParts)
	some := strings.Repeat("ABC'", impl.MaxSegments)
	return []struct {
		text        string
		code, place int
	}{
		{"A", impl.ErrSyntax, 1},
		{"AB", impl.ErrSyntax, 2},
		{"ABC", impl.ErrSyntax, 3}, // the text ends too early
		{"ABC+", impl.ErrSyntax, 4},
		{"ABC+a", impl.ErrSyntax, 5},
		{"ABC+a+", impl.ErrSyntax, 6},
		{"ABC+?", impl.ErrSyntax, 5}, // right behind a `?`
		{"ABC+a?", impl.ErrSyntax, 6},
		{"ABC+??", impl.ErrSyntax, 6},
		{"ABC+???", impl.ErrSyntax, 7},
		{"ABC+?'", impl.ErrSyntax, 6}, // the `'` is the part's
		{"ABC'DE", impl.ErrSyntax, 6},
		{"'", impl.ErrSyntax, 0},
		{"+", impl.ErrSyntax, 0},
		{"?", impl.ErrSyntax, 0},
		{"\n", impl.ErrSyntax, 0},
		{"\x00", impl.ErrSyntax, 0},
		{" ABC'", impl.ErrSyntax, 0},
		{"aBC'", impl.ErrSyntax, 0},
		{"AbC'", impl.ErrSyntax, 1},
		{"ABc'", impl.ErrSyntax, 2},
		{"@BC'", impl.ErrSyntax, 0},
		{"A[C'", impl.ErrSyntax, 1},
		{"AB0'", impl.ErrSyntax, 2},
		{"AB'", impl.ErrSyntax, 2},
		{"AB+a'", impl.ErrSyntax, 2},
		{"A'", impl.ErrSyntax, 1},
		{"ÄBC'", impl.ErrSyntax, 0},
		{"ABCD'", impl.ErrSyntax, 3},
		{"ABC?+'", impl.ErrSyntax, 3}, // no `?` can stand behind a Tag
		{"ABC '", impl.ErrSyntax, 3},
		{"ABC\n'", impl.ErrSyntax, 3},
		{"ABC'\n", impl.ErrSyntax, 4},
		{"ABC''", impl.ErrSyntax, 4},
		{"ABC'+", impl.ErrSyntax, 4},
		{"ABC' DEF'", impl.ErrSyntax, 4},
		{"ABC+a'b'", impl.ErrSyntax, 6},
		{"ABC+a'ABC+?x'", impl.ErrSyntax, 11},
		{"ABC+?a'", impl.ErrSyntax, 5},
		{"ABC+? '", impl.ErrSyntax, 5},
		{"ABC+?\x00'", impl.ErrSyntax, 5},
		{"ABC+?\xff'", impl.ErrSyntax, 5},
		{"ABC+???a'", impl.ErrSyntax, 7},
		{"ABC+" + full + "y'", impl.ErrRange, 84},
		{"ABC+" + full + "y", impl.ErrRange, 84}, // that it ends too early comes behind
		{"ABC+" + full + "\xff'", impl.ErrRange, 84},
		{"ABC+" + full + "?+'", impl.ErrRange, 85}, // behind its `?`
		{"ABC+" + full + "??'", impl.ErrRange, 85},
		{"ABC+" + full + "?''", impl.ErrRange, 85},
		{"ABC+" + full + "?y'", impl.ErrSyntax, 85}, // what can not stand there is no byte of the part
		{"ABC+" + full + "?", impl.ErrSyntax, 85},
		{"ABC+" + full, impl.ErrSyntax, 84},
		{"ABC+" + full + full + "'", impl.ErrRange, 84},
		{"ABC+" + marks + "y'", impl.ErrRange, 164},
		{"ABC+" + marks + "?+'", impl.ErrRange, 165},
		{"ABC+" + marks + "?y'", impl.ErrSyntax, 165},
		{"ABC+" + marks, impl.ErrSyntax, 164},
		{"ABC++" + full + "y'", impl.ErrRange, 85},
		{"ABC+" + full + "+" + full + "y'", impl.ErrRange, 165},
		{"ABC+" + full + "'DEF+" + full + "y'", impl.ErrRange, 169},
		{parts + "+'", impl.ErrMany, 43},
		{parts + "+", impl.ErrMany, 43}, // that it ends too early comes behind
		{parts + "++", impl.ErrMany, 43},
		{parts + "+" + full + "y'", impl.ErrMany, 43},
		{parts, impl.ErrSyntax, 43},
		{parts + "?", impl.ErrSyntax, 44},
		{parts + "'" + parts + "+q'", impl.ErrMany, 87},
		{some + "ABC'", impl.ErrMany, 800},
		{some + "A", impl.ErrMany, 800}, // it begins there, whatever becomes of it
		{some + "abc'", impl.ErrMany, 800},
		{some + "\n", impl.ErrMany, 800},
		{some + "'", impl.ErrMany, 800},
		{some[4:] + "ABC", impl.ErrSyntax, 799},
		{some[4:] + "ABC+?'", impl.ErrSyntax, 802},
		{some[4:] + "ABC+" + full + "y'ABC'", impl.ErrRange, 880},
		{some[4:] + parts + "+'ABC'", impl.ErrMany, 839},
	}
}

func TestP19TextsOfSegmentsThatAreNone(t *testing.T) {
	for _, c := range segmentTextsWithFaults() {
		wantNoSegments(t, c.text, c.code, c.place)
		if list, code, place := readByWords(c.text); len(list) != 0 || code != c.code || place != c.place {
			t.Errorf("%.300q: by the words %q, %d, %d", c.text, list, code, place)
		}
		before := supplierText()
		if count := strings.Count(c.text, "ABC'"); count < impl.MaxSegments-len(supplierSegments()) {
			wantNoSegments(t, before+c.text, c.code, len(before)+c.place)
		}
	}
}

// Of two faults the one that comes first going along the text counts, whatever its code.
func TestP19WhichFaultOfATextOfSegmentsComesFirst(t *testing.T) {
	seen := map[[2]int]int{}
	for _, first := range segmentTextsWithFaults() {
		if first.place >= len(first.text) {
			continue // what stands behind it would mend it, or be at fault itself
		}
		for _, second := range segmentTextsWithFaults() {
			wantNoSegments(t, first.text+"'"+second.text, first.code, first.place)
			wantReadByWords(t, first.text+"'"+second.text)
			wantReadByWords(t, first.text+second.text)
			seen[[2]int{first.code, second.code}]++
		}
	}
	for _, first := range []int{impl.ErrMany, impl.ErrSyntax, impl.ErrRange} {
		for _, second := range []int{impl.ErrMany, impl.ErrSyntax, impl.ErrRange} {
			if seen[[2]int{first, second}] < 30 {
				t.Error("too few of two codes", first, second, seen)
			}
		}
	}
}

// A text that ends at each place of its segments: the place of the fault is its length, unless a segment ended there.
func TestP19TextsOfSegmentsThatEndTooEarly(t *testing.T) {
	lists := rightSegmentLists()
	lists = append(lists, segmentsOf(segment("ABC", "?", "'", "+", "?'", "x+y", strings.Repeat("+", impl.MaxRemark)), segment("DEF")), segmentsOf(fullSegment("x"), fullSegment("+")))
	for _, list := range lists {
		text := wholeTextByWords(list)
		ends := map[int]int{0: 0} // how many segments have ended at a place
		at := 0
		for count, s := range list {
			at += len(wholeTextByWords(segmentsOf(s)))
			ends[at] = count + 1
		}
		for end := 0; end <= min(len(text), 4000); end++ {
			if count, ended := ends[end]; ended {
				wantSegments(t, text[:end], list[:count])
			} else {
				wantNoSegments(t, text[:end], impl.ErrSyntax, end)
			}
		}
	}
}

// Another byte at each place of a segment; and one byte more, and one less.
func TestP19AnotherByteAtEachPlaceOfSegments(t *testing.T) {
	full := wholeTextByWords(segmentsOf(segment("ABC", strings.Repeat("x", 40)+strings.Repeat("?", 40), strings.Repeat("'", impl.MaxRemark))))
	seen := map[int]int{}
	nearlyAll := strings.Repeat("DEF'", impl.MaxSegments-2)
	for _, c := range []struct{ ahead, text string }{{"", "ABC'"}, {"", "ABC+a'"}, {"", "ABC+?+'"}, {"", "ABC++?'x+??'DEF'"}, {"", supplierText()}, {"", full}, {"ABC", strings.Repeat("+", impl.MaxParts) + "'"}, {nearlyAll, "ABC'ABC+a'"}} {
		for place := range len(c.text) {
			ahead, behind := c.ahead+c.text[:place], c.text[place+1:]
			wantReadByWords(t, ahead+behind)
			for b := range 256 {
				other := string([]byte{byte(b)})
				seen[wantReadByWords(t, ahead+other+behind)]++
				seen[wantReadByWords(t, ahead+other+c.text[place:])]++
			}
		}
	}
	for _, code := range []int{impl.OK, impl.ErrSyntax, impl.ErrRange, impl.ErrMany} {
		if seen[code] < 20 {
			t.Error("too few of one code", code, seen)
		}
	}
}

func TestP19EverySmallTextOfSegments(t *testing.T) {
	letters := "A+?'x"
	seen := map[int]int{}
	for _, start := range []string{"", "AAA", "AAA+", "AAA+A'AAA"} {
		for length := range 7 {
			eachCounts(length, 0, len(letters)-1, func(places []int) {
				text := []byte(start)
				for _, place := range places {
					text = append(text, letters[place])
				}
				seen[wantReadByWords(t, string(text))]++
			})
		}
	}
	if seen[impl.OK] < 1000 || seen[impl.ErrSyntax] < 1000 {
		t.Error("too few of one code", seen)
	}
}

// A byte behind a `?` is one of the three or at fault, wherever in a part the `?` stands.
func TestP19EveryByteBehindAnEscape(t *testing.T) {
	for ahead := 0; ahead <= impl.MaxRemark; ahead++ {
		for _, fill := range []string{"x", "?+"} {
			head := "ABC+" + strings.Repeat(fill, ahead)
			for b := range 256 {
				text := head + "?" + string([]byte{byte(b)}) + "'"
				switch {
				case !strings.Contains("+?'", string([]byte{byte(b)})):
					wantNoSegments(t, text, impl.ErrSyntax, len(head)+1)
				case ahead == impl.MaxRemark:
					wantNoSegments(t, text, impl.ErrRange, len(head)+1)
				default:
					wantSegments(t, text, segmentsOf(segment("ABC", strings.Repeat(fill[len(fill)-1:], ahead)+string([]byte{byte(b)}))))
				}
			}
		}
	}
}

// A part that has all its bytes takes a separator, and nothing else.
func TestP19EveryByteBehindAFullPart(t *testing.T) {
	for _, fill := range []string{"x", "??", "?'", "\xff"} {
		head := "ABC++" + strings.Repeat(fill, impl.MaxRemark)
		for b := range 256 {
			text := head + string([]byte{byte(b)}) + "'"
			part := strings.Repeat(fill[len(fill)-1:], impl.MaxRemark)
			switch b {
			case '+':
				wantSegments(t, text, segmentsOf(segment("ABC", "", part, "")))
			case '?':
				wantNoSegments(t, text, impl.ErrRange, len(head)+1)
			case '\'':
				wantNoSegments(t, text, impl.ErrSyntax, len(head)+1) // it ends the segment, and the next one has no Tag
			default:
				wantNoSegments(t, text, impl.ErrRange, len(head))
			}
		}
	}
}

func TestSegmentsAndPartsOneBeyondTheirNumber(t *testing.T) {
	for _, count := range []int{impl.MaxParts + 1, impl.MaxParts + 2, 1000} {
		for _, part := range []string{"", "a", "?+", strings.Repeat("x", impl.MaxRemark)} {
			head := "DEF+a'ABC" + strings.Repeat("+"+part, impl.MaxParts)
			text := "DEF+a'ABC" + strings.Repeat("+"+part, count)
			if len(text) < impl.MaxText {
				wantNoSegments(t, text+"'", impl.ErrMany, len(head))
				wantNoSegments(t, text, impl.ErrMany, len(head))
			}
		}
	}
	for _, s := range []string{"ABC'", "ABC+'", "ABC+?''", "ABC+a+b'"} {
		for _, count := range []int{impl.MaxSegments + 1, impl.MaxSegments + 2, 1000} {
			wantNoSegments(t, strings.Repeat(s, count), impl.ErrMany, impl.MaxSegments*len(s))
		}
		for b := range 256 {
			wantNoSegments(t, strings.Repeat(s, impl.MaxSegments)+string([]byte{byte(b)}), impl.ErrMany, impl.MaxSegments*len(s))
		}
	}
}

func TestTextsOfSegmentsBeyondMaxText(t *testing.T) {
	at, beyond := wholeTextByWords(segmentsOfSize(impl.MaxText, "x")), wholeTextByWords(segmentsOfSize(impl.MaxText+1, "x"))
	wantSegments(t, at, segmentsOfSize(impl.MaxText, "x"))
	wantNoSegments(t, beyond, impl.ErrLong, 0)
	wantNoSegments(t, at+"'", impl.ErrLong, 0)
	wantNoSegments(t, at[:impl.MaxText-1]+"\n", impl.ErrSyntax, impl.MaxText)
	for _, b := range []string{"A", "+", "?", "'", "\x00", "x"} {
		wantReadByWords(t, strings.Repeat(b, impl.MaxText))
		wantNoSegments(t, strings.Repeat(b, impl.MaxText+1), impl.ErrLong, 0)
		wantNoSegments(t, "ABC+"+strings.Repeat(b, 2*impl.MaxText), impl.ErrLong, 0)
	}
	wantNoSegments(t, strings.Repeat("ABC'", impl.MaxText/4), impl.ErrMany, 800)
	wantNoSegments(t, strings.Repeat("ABC'", impl.MaxText/4)+"A", impl.ErrLong, 0)
}

// someSegmentText is made of pieces of texts, so that its faults are of all kinds.
func someSegmentText(r *rand.Rand) string {
	pieces := []string{"ABC", "ABC'", "+", "'", "?", "??", "?'", "?+", "a", "xyz", "\xff", "A", "ABC+a'", "ABC+?''", strings.Repeat("x", 79), strings.Repeat("?+", 80), strings.Repeat("+", 19), strings.Repeat("DEF'", 199)}
	text := []string{"ABC+"}
	for range r.IntN(8) {
		text = append(text, pieces[r.IntN(len(pieces))])
	}
	return strings.Join(append(text, "'"), "")
}

func TestP19ReadSegmentsAgainstThePlainReading(t *testing.T) {
	r := fixed()
	seen := map[int]int{}
	for range 60000 {
		seen[wantReadByWords(t, someSegmentText(r))]++
	}
	for _, code := range []int{impl.OK, impl.ErrSyntax, impl.ErrRange, impl.ErrMany} {
		if seen[code] < 500 {
			t.Error("too few of one code", code, seen)
		}
	}
}

// A text that is read is the text of what was read: no two texts say the same.
func TestP19WhatIsReadIsWrittenAsItWas(t *testing.T) {
	r := fixed()
	read := 0
	for range 30000 {
		text := someSegmentText(r)
		list, code, place := impl.ReadSegments(text)
		if code != impl.OK {
			continue
		}
		read++
		if place != 0 || !segmentsByWords(list) {
			t.Fatalf("ReadSegments(%.300q) = %q, %d, %d", text, list, code, place)
		}
		wantSegmentsText(t, list, text, impl.OK)
	}
	if read < 2000 {
		t.Error("too few texts are read", read)
	}
}

// canBeMended: something that comes behind makes a right text of it.
func canBeMended(ahead string) bool {
	return slices.ContainsFunc([]string{"", "'", "A'", "AA'", "AAA'", "+'"}, func(end string) bool {
		_, code, _ := impl.ReadSegments(ahead + end)
		return code == impl.OK
	})
}

// What stands ahead of a fault is the beginning of a text that is right; but for a `?` of which the byte behind it would be one too many.
func TestP19WhatStandsAheadOfAFaultIsRight(t *testing.T) {
	r := fixed()
	seen := map[int]int{}
	for range 20000 {
		text := someSegmentText(r)
		_, code, place := impl.ReadSegments(text)
		if code == impl.OK {
			continue
		}
		if !canBeMended(text[:place]) && !canBeMended(strings.TrimSuffix(text[:place], "?")) {
			t.Fatalf("ReadSegments(%.300q): %d, %d; what stands ahead is at fault itself", text, code, place)
		}
		if place < len(text) && canBeMended(text[:place+1]) {
			t.Fatalf("ReadSegments(%.300q): %d, %d; the byte can stand there", text, code, place)
		}
		seen[code]++
	}
	for _, code := range []int{impl.ErrSyntax, impl.ErrRange, impl.ErrMany} {
		if seen[code] < 500 {
			t.Error("too few of one code", code, seen)
		}
	}
}

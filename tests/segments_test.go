package tests

import (
	"fmt"
	"math/rand/v2"
	"slices"
	"strings"
	"testing"

	"loop.example/g00067/impl"
)

func segment(tag string, parts ...string) impl.Segment {
	return impl.Segment{Tag: tag, Parts: parts}
}

func segmentsOf(list ...impl.Segment) []impl.Segment { return list }

func sameSegments(a, b []impl.Segment) bool {
	return slices.EqualFunc(a, b, func(one, other impl.Segment) bool {
		return one.Tag == other.Tag && slices.Equal(one.Parts, other.Parts)
	})
}

// supplierSegments are right: parts with each mark, of no byte, of bytes that are no UTF-8, and a segment without parts.
func supplierSegments() []impl.Segment {
	return segmentsOf(segment("UNH", "17", "ORDERS"), segment("LIN", "1", "it's+?", ""), segment("FTX", "\xff\xc3\x00", "käse\n"), segment("UNT"))
}

func supplierText() string {
	return "UNH+17+ORDERS'LIN+1+it?'s?+??+'FTX+\xff\xc3\x00+käse\n'UNT'"
}

// manySegments have two parts each, of four bytes together.
func manySegments(count int) []impl.Segment {
	return slices.Repeat(segmentsOf(segment("LIN", "abc", "d")), count)
}

// fullSegment has as many bytes as a segment may have, all of them this one.
func fullSegment(b string) impl.Segment {
	return segment("FUL", slices.Repeat([]string{strings.Repeat(b, impl.MaxRemark)}, impl.MaxParts)...)
}

// segmentsOfSize have a text of just so many bytes: full segments, and one that takes what is left of a size that is near MaxText. fill is one byte that is no mark.
func segmentsOfSize(size int, fill string) []impl.Segment {
	full := fullSegment(fill)
	each := len(wholeTextByWords(segmentsOf(full)))
	list := slices.Repeat(segmentsOf(full), size/each)
	last := segment("END")
	for left := size%each - len("END'"); left > 0; {
		length := min(impl.MaxRemark, left-len("+"))
		last.Parts = append(last.Parts, strings.Repeat(fill, length))
		left -= len("+") + length
	}
	return append(list, last)
}

func sizesOfSegments() []int { return []int{impl.MaxText - 100, impl.MaxText - 1, impl.MaxText} }

var marksEscaped = strings.NewReplacer("+", "?+", "?", "??", "'", "?'")

func segmentsByWords(list []impl.Segment) bool {
	if len(list) > 200 {
		return false
	}
	for _, s := range list {
		if len(s.Tag) != 3 || len(s.Parts) > 20 || strings.Trim(s.Tag, "ABCDEFGHIJKLMNOPQRSTUVWXYZ") != "" {
			return false
		}
		for _, part := range s.Parts {
			if len(part) > 80 {
				return false
			}
		}
	}
	return true
}

// wholeTextByWords does not look at whether segments are right, nor at the length.
func wholeTextByWords(list []impl.Segment) string {
	var text strings.Builder
	for _, s := range list {
		text.WriteString(s.Tag)
		for _, part := range s.Parts {
			text.WriteString("+" + marksEscaped.Replace(part))
		}
		text.WriteString("'")
	}
	return text.String()
}

func segmentsTextByWords(list []impl.Segment) (string, int) {
	switch {
	case len(list) > 4096:
		return "", impl.ErrLong
	case !segmentsByWords(list):
		return "", impl.ErrBad
	}
	text := wholeTextByWords(list)
	if len(text) > 65536 {
		return "", impl.ErrOver
	}
	return text, impl.OK
}

func wantSegmentsText(t *testing.T, list []impl.Segment, want string, wantCode int) {
	t.Helper()
	if text, code := impl.SegmentsText(list); text != want || code != wantCode {
		t.Errorf("SegmentsText(%.300s) = %.300q, %d; want %.300q, %d", fmt.Sprintf("%q", list), text, code, want, wantCode)
	}
}

func wantSegmentsTextByWords(t *testing.T, list []impl.Segment) int {
	t.Helper()
	want, code := segmentsTextByWords(list)
	wantSegmentsText(t, list, want, code)
	return code
}

// wantSegmentsReadBack: they are right, and what is written is read as it was.
func wantSegmentsReadBack(t *testing.T, list []impl.Segment) {
	t.Helper()
	if code := wantSegmentsTextByWords(t, list); code != impl.OK {
		t.Fatalf("SegmentsText(%.300s): %d", fmt.Sprintf("%q", list), code)
	}
	text, _ := impl.SegmentsText(list)
	wantSegments(t, text, list)
}

// someSegments are right; bytes is what their parts are made of.
func someSegments(r *rand.Rand, count, parts, length int, bytes string) []impl.Segment {
	var list []impl.Segment
	for range count {
		s := impl.Segment{Tag: someBytes(r, 3, "ABCKLMXYZ")}
		for range r.IntN(parts + 1) {
			s.Parts = append(s.Parts, someBytes(r, r.IntN(length+1), bytes))
		}
		list = append(list, s)
	}
	return list
}

func someBytes(r *rand.Rand, count int, bytes string) string {
	var some []byte
	for range count {
		some = append(some, bytes[r.IntN(len(bytes))])
	}
	return string(some)
}

func allBytes() string {
	var all []byte
	for b := range 256 {
		all = append(all, byte(b))
	}
	return string(all)
}

func kindsOfBytes() []string {
	return []string{"+?'", "a+b?c'd", "abcABC ", "?", "'", "+", "\xff\x80\xc3", "\x00", allBytes()}
}

func rightSegmentLists() [][]impl.Segment {
	lists := [][]impl.Segment{
		nil,
		{},
		supplierSegments(),
		segmentsOf(segment("AAA")),
		segmentsOf(segment("ZZZ")),
		segmentsOf(segment("AZM", "")),
		segmentsOf(segment("AZM", "", "", "")),
		segmentsOf(segment("AZM", strings.Repeat("\xff", impl.MaxRemark))),
		segmentsOf(segment("AZM", slices.Repeat([]string{""}, impl.MaxParts)...)),
		segmentsOf(fullSegment("x")),
		segmentsOf(fullSegment("?"), fullSegment("'"), fullSegment("+")),
		manySegments(impl.MaxSegments),
		slices.Repeat(segmentsOf(segment("AAA")), impl.MaxSegments),
	}
	for _, size := range sizesOfSegments() {
		lists = append(lists, segmentsOfSize(size, "x"))
	}
	return lists
}

// wrongSegments are each wrong by one thing alone.
func wrongSegments() []impl.Segment {
	list := []impl.Segment{{}, {Parts: []string{"a"}}}
	for _, tag := range []string{"A", "AB", "ABCD", "abc", "Abc", "ABc", "aBC", "A@C", "A[C", "@BC", "[BC", "AB@", "AB[", "1BC", "A1C", "AB1", "A C", "AB ", " BC", "AB'", "+BC", "A?C", "\x00BC", "AB\xff", "Äa", "ÄB", "AÄ", "ABCABC", strings.Repeat("A", impl.MaxText+1)} {
		list = append(list, segment(tag), segment(tag, "a"))
	}
	for _, length := range []int{impl.MaxRemark + 1, impl.MaxRemark + 2, 1000, impl.MaxText + 1} {
		for _, b := range []string{"x", "?", "\xff"} {
			long := strings.Repeat(b, length)
			list = append(list, segment("ABC", long), segment("ABC", "a", long), segment("ABC", long, "a"), segment("ABC", append(slices.Repeat([]string{""}, impl.MaxParts-1), long)...))
		}
	}
	for _, count := range []int{impl.MaxParts + 1, impl.MaxParts + 2, 1000, impl.MaxList, impl.MaxList + 1} {
		list = append(list, segment("ABC", slices.Repeat([]string{""}, count)...), segment("ABC", slices.Repeat([]string{"a"}, count)...))
	}
	return list
}

func wrongSegmentLists() [][]impl.Segment {
	lists := [][]impl.Segment{manySegments(impl.MaxSegments + 1), manySegments(impl.MaxSegments + 2), manySegments(1000), manySegments(impl.MaxList), make([]impl.Segment, impl.MaxList), slices.Repeat(segmentsOf(fullSegment("?")), impl.MaxSegments+1)}
	for _, s := range wrongSegments() {
		lists = append(lists, segmentsOf(s), append(supplierSegments(), s), append(segmentsOf(s), supplierSegments()...))
	}
	return lists
}

// overSegmentLists are right, but have more than MaxText bytes.
func overSegmentLists() [][]impl.Segment {
	lists := [][]impl.Segment{slices.Repeat(segmentsOf(fullSegment("x")), impl.MaxSegments), slices.Repeat(segmentsOf(fullSegment("?")), impl.MaxSegments), slices.Repeat(segmentsOf(fullSegment("+")), 21)}
	for _, size := range []int{impl.MaxText + 1, impl.MaxText + 2, impl.MaxText + 100} {
		lists = append(lists, segmentsOfSize(size, "x"))
	}
	return lists
}

func longSegmentLists() [][]impl.Segment {
	return [][]impl.Segment{manySegments(impl.MaxList + 1), make([]impl.Segment, impl.MaxList+1), slices.Repeat(segmentsOf(fullSegment("?")), impl.MaxList+1), slices.Repeat(segmentsOf(segment("abc")), 2*impl.MaxList)}
}

func TestSuppliersBounds(t *testing.T) {
	got := []int{impl.MaxSegments, impl.MaxParts, impl.MaxDocs, impl.MaxRungs, impl.MaxRemark, impl.MaxText, impl.MaxMany, impl.MaxMoney}
	if !slices.Equal(got, []int{200, 20, 60, 12, 80, 65536, 100000, 1000000000}) {
		t.Error("constants", got)
	}
}

func TestP19SegmentsByHand(t *testing.T) {
	for _, c := range []struct {
		list []impl.Segment
		text string
	}{
		{nil, ""},
		{segmentsOf(), ""},
		{segmentsOf(segment("UNT")), "UNT'"},
		{segmentsOf(segment("UNT"), segment("UNT")), "UNT'UNT'"},
		{segmentsOf(segment("LIN", "")), "LIN+'"},
		{segmentsOf(segment("LIN", "", "")), "LIN++'"},
		{segmentsOf(segment("LIN", "", "a", "")), "LIN++a+'"},
		{segmentsOf(segment("LIN", "1", "2", "3")), "LIN+1+2+3'"},
		{segmentsOf(segment("LIN", "+")), "LIN+?+'"},
		{segmentsOf(segment("LIN", "?")), "LIN+??'"},
		{segmentsOf(segment("LIN", "'")), "LIN+?''"},
		{segmentsOf(segment("LIN", "+?'")), "LIN+?+???''"},
		{segmentsOf(segment("LIN", "'?+")), "LIN+?'???+'"},
		{segmentsOf(segment("LIN", "??")), "LIN+????'"},
		{segmentsOf(segment("LIN", "?", "?")), "LIN+??+??'"},
		{segmentsOf(segment("LIN", "?+?")), "LIN+???+??'"},
		{segmentsOf(segment("LIN", "''"), segment("LIN", "'")), "LIN+?'?''LIN+?''"},
		{segmentsOf(segment("LIN", "LIN'LIN"), segment("LIN")), "LIN+LIN?'LIN'LIN'"},
		{segmentsOf(segment("LIN", "\x00", "\xff", "\n", " ")), "LIN+\x00+\xff+\n+ '"},
		{segmentsOf(segment("LIN", "lin", "LIN", "@[")), "LIN+lin+LIN+@['"},
		{supplierSegments(), supplierText()},
	} {
		wantSegmentsText(t, c.list, c.text, impl.OK)
		wantSegments(t, c.text, c.list)
		if text, code := segmentsTextByWords(c.list); text != c.text || code != impl.OK {
			t.Errorf("%q: by the words %q, %d", c.list, text, code)
		}
	}
}

func TestP19RightSegmentsAreReadBack(t *testing.T) {
	for _, list := range rightSegmentLists() {
		wantSegmentsReadBack(t, list)
	}
}

func TestSegmentsThatAreWrong(t *testing.T) {
	for _, list := range wrongSegmentLists() {
		wantSegmentsText(t, list, "", impl.ErrBad)
		wantSegmentsTextByWords(t, list)
	}
}

func TestTagsOfEveryByte(t *testing.T) {
	right := 0
	for place := range 3 {
		for b := range 256 {
			tag := []byte("KLM")
			tag[place] = byte(b)
			list := segmentsOf(segment("AAA", "x"), segment(string(tag), "y"))
			if b >= 'A' && b <= 'Z' {
				wantSegmentsReadBack(t, list)
				right++
				continue
			}
			wantSegmentsText(t, list, "", impl.ErrBad)
			wantNoSegments(t, wholeTextByWords(list), impl.ErrSyntax, len("AAA+x'")+place)
		}
	}
	if right != 3*26 {
		t.Error("tags that are right", right)
	}
	for length := range 8 {
		tag := strings.Repeat("Q", length)
		want := impl.ErrBad
		if length == 3 {
			want = impl.OK
		}
		if _, code := impl.SegmentsText(segmentsOf(segment(tag))); code != want {
			t.Errorf("a Tag of %d letters: %d", length, code)
		}
	}
}

func TestP19PartsOfEveryTwoBytes(t *testing.T) {
	all := allBytes()
	for first := range all {
		s := segment("ABC")
		var list []impl.Segment
		for second := range all {
			s.Parts = append(s.Parts, all[first:first+1]+all[second:second+1])
			if len(s.Parts) == impl.MaxParts || second == len(all)-1 {
				list = append(list, s)
				s.Parts = nil
			}
		}
		wantSegmentsReadBack(t, list)
		wantSegmentsReadBack(t, segmentsOf(segment("ABC", all[first:first+1])))
	}
}

func TestP19PartsOfEveryLengthAndNumber(t *testing.T) {
	for _, b := range []string{"x", "+", "?", "'", "\xff", "\x00", "é", "?'"} {
		for length := 0; length <= impl.MaxRemark; length++ {
			part := strings.Repeat(b, length)[:length]
			wantSegmentsReadBack(t, segmentsOf(segment("ABC", part)))
			wantSegmentsReadBack(t, segmentsOf(segment("ABC", "", part, part, "a"), segment("ABC", part)))
		}
		for count := 0; count <= impl.MaxParts; count++ {
			for _, length := range []int{0, 1, impl.MaxRemark} {
				part := strings.Repeat(b, length)[:length]
				wantSegmentsReadBack(t, segmentsOf(segment("ABC", slices.Repeat([]string{part}, count)...), segment("DEF")))
			}
		}
	}
	for count := 0; count <= impl.MaxSegments; count++ {
		wantSegmentsReadBack(t, manySegments(count))
	}
}

func TestTextsOfSegmentsAtMaxText(t *testing.T) {
	for _, fill := range []string{"x", "\xff"} {
		for _, size := range sizesOfSegments() {
			list := segmentsOfSize(size, fill)
			if text, code := impl.SegmentsText(list); code != impl.OK || len(text) != size {
				t.Fatalf("a text of %d bytes: %d, %d", size, len(text), code)
			}
			wantSegmentsReadBack(t, list)
		}
		for _, more := range []int{1, 2, 3, 50} {
			list := segmentsOfSize(impl.MaxText+more, fill)
			if text := wholeTextByWords(list); len(text) != impl.MaxText+more || !segmentsByWords(list) {
				t.Fatal("segments of another size", len(text))
			}
			wantSegmentsText(t, list, "", impl.ErrOver)
		}
	}
	for _, list := range overSegmentLists() {
		wantSegmentsText(t, list, "", impl.ErrOver)
		wantSegmentsTextByWords(t, list)
	}
}

// A mark counts by the two bytes that it has in the text.
func TestEscapesCountInTheLengthOfATextOfSegments(t *testing.T) {
	for _, mark := range []string{"+", "?", "'"} {
		list := segmentsOfSize(impl.MaxText-3, "x")
		for marks := range 7 {
			list[0].Parts = slices.Clone(list[0].Parts)
			list[0].Parts[0] = strings.Repeat(mark, marks) + strings.Repeat("x", impl.MaxRemark-marks)
			text, code := impl.SegmentsText(list)
			if marks <= 3 && (code != impl.OK || len(text) != impl.MaxText-3+marks) || marks > 3 && (code != impl.ErrOver || text != "") {
				t.Errorf("%d of %s: %d bytes, %d", marks, mark, len(text), code)
			}
		}
	}
}

// Faults come in the order in which the chapter names them.
func TestSegmentsWhichFaultComesFirst(t *testing.T) {
	for _, s := range wrongSegments() {
		for _, over := range overSegmentLists() {
			wantSegmentsText(t, append(segmentsOf(s), over...), "", impl.ErrBad)
			wantSegmentsText(t, append(slices.Clone(over), s), "", impl.ErrBad)
		}
		for _, count := range []int{impl.MaxList + 1, 2 * impl.MaxList} {
			wantSegmentsText(t, slices.Repeat(segmentsOf(s), count), "", impl.ErrLong)
		}
		wantSegmentsText(t, slices.Repeat(segmentsOf(s), impl.MaxSegments+1), "", impl.ErrBad)
	}
	for _, list := range longSegmentLists() {
		wantSegmentsText(t, list, "", impl.ErrLong)
	}
}

func TestP19WhatIsWrittenIsReadAsItWas(t *testing.T) {
	r := fixed()
	for _, bytes := range kindsOfBytes() {
		for range 600 {
			wantSegmentsReadBack(t, someSegments(r, r.IntN(6), 1+r.IntN(impl.MaxParts), 1+r.IntN(impl.MaxRemark), bytes))
			wantSegmentsReadBack(t, someSegments(r, r.IntN(impl.MaxSegments+1), 3, 8, bytes))
		}
		for range 20 {
			wantSegmentsReadBack(t, someSegments(r, 20, impl.MaxParts, impl.MaxRemark, bytes))
			wantSegmentsTextByWords(t, someSegments(r, impl.MaxSegments, impl.MaxParts, impl.MaxRemark, bytes))
		}
	}
}

// Segments that differ have texts that differ: no two lists are told alike.
func TestP19NoTwoListsHaveOneText(t *testing.T) {
	texts := map[string]string{}
	parts := []string{"", "+", "?", "'", "A", "?+", "+A", "A'", "''", "AAA"}
	var segments []impl.Segment
	for _, one := range parts {
		segments = append(segments, segment("AAA", one))
		for _, other := range parts {
			segments = append(segments, segment("AAA", one, other))
		}
	}
	segments = append(segments, segment("AAA"), segment("AAB"))
	for _, one := range segments {
		for _, list := range [][]impl.Segment{segmentsOf(one), segmentsOf(one, segment("AAA")), segmentsOf(segment("AAA", "+"), one), segmentsOf(one, one)} {
			text, code := impl.SegmentsText(list)
			is := fmt.Sprintf("%q", list)
			if was, there := texts[text]; code != impl.OK || there && was != is {
				t.Errorf("%s and %s have one text: %q, %d", was, is, text, code)
			}
			texts[text] = is
		}
	}
	if len(texts) < 400 {
		t.Error("too few texts", len(texts))
	}
}

func TestP19TwoTextsOneBehindTheOtherAreBothLists(t *testing.T) {
	r := fixed()
	many := 0
	for range 3000 {
		bytes := kindsOfBytes()[r.IntN(len(kindsOfBytes()))]
		first, second := someSegments(r, r.IntN(130), 2, 5, bytes), someSegments(r, r.IntN(130), 2, 5, bytes)
		one, _ := impl.SegmentsText(first)
		other, _ := impl.SegmentsText(second)
		both := slices.Concat(first, second)
		if len(both) <= impl.MaxSegments {
			wantSegments(t, one+other, both)
			wantSegmentsText(t, both, one+other, impl.OK)
			continue
		}
		wantNoSegments(t, one+other, impl.ErrMany, len(wholeTextByWords(both[:impl.MaxSegments])))
		many++
	}
	if many < 100 {
		t.Error("too few that are too many", many)
	}
	for _, list := range rightSegmentLists() {
		text, _ := impl.SegmentsText(list)
		if len(list) < impl.MaxSegments-4 && len(text) < impl.MaxText-100 {
			wantSegments(t, supplierText()+text, append(supplierSegments(), list...))
			wantSegments(t, text+supplierText(), append(slices.Clone(list), supplierSegments()...))
		}
	}
}

package tests

import (
	"fmt"
	"math/rand/v2"
	"regexp"
	"slices"
	"strconv"
	"strings"
	"testing"

	"loop.example/g00067/impl"
)

var entryForm = regexp.MustCompile(`(?s)\A(` + numberForm + `) (` + numberForm + `) (` + numberForm + `) (` + numberForm + `) (.*)\z`)

// textByWords takes whatever it is given, so that entries that are wrong have a text, too.
func textByWords(list []impl.Entry) string {
	text := ""
	for _, e := range list {
		text += fmt.Sprintf("%d %s\n", e.Sum, headByWords(e))
	}
	return text
}

func entryOfLine(line string) (impl.Entry, bool) {
	found := entryForm.FindStringSubmatch(line)
	if found == nil {
		return impl.Entry{}, false
	}
	return impl.Entry{Sum: asNumber(found[1]), Seq: asNumber(found[2]), Kind: asNumber(found[3]), Amount: asNumber(found[4]), Text: found[5]}, true
}

// linesByWords goes byte by byte.
func linesByWords(text string) []string {
	var lines []string
	line, has := "", false
	for _, b := range []byte(text) {
		if b == 10 {
			lines, line, has = append(lines, line), "", false
			continue
		}
		line, has = line+string([]byte{b}), true
	}
	if has {
		lines = append(lines, line)
	}
	return lines
}

func journalByWords(text string) ([]impl.Entry, int, int) {
	lines := linesByWords(text)
	if len(lines) > 200 {
		return nil, impl.ErrMany, 0
	}
	var list []impl.Entry
	for i, line := range lines {
		e, ok := entryOfLine(line)
		if !ok {
			return nil, impl.ErrSyntax, i + 1
		}
		list = append(list, e)
	}
	if code, place := checkByWords(list); code != impl.OK {
		return nil, code, place + 1
	}
	return list, impl.OK, 0
}

func wantJournalRead(t *testing.T, what, text string, want []impl.Entry) {
	t.Helper()
	got, code, line := impl.ReadJournal(text)
	if code != impl.OK || line != 0 || !slices.Equal(got, want) {
		t.Errorf("%s: ReadJournal(%.200q) = %.200v, %d, line %d; want %.200v", what, text, got, code, line, want)
	}
}

func wantJournalUnread(t *testing.T, what, text string, wantCode, wantLine int) {
	t.Helper()
	got, code, line := impl.ReadJournal(text)
	if code != wantCode || line != wantLine || len(got) != 0 {
		t.Errorf("%s: ReadJournal(%.200q) = %.200v, %d, line %d; want %d, line %d", what, text, got, code, line, wantCode, wantLine)
	}
}

func wantSameJournal(t *testing.T, text string) int {
	t.Helper()
	want, wantCode, wantLine := journalByWords(text)
	got, code, line := impl.ReadJournal(text)
	if code != wantCode || line != wantLine || !slices.Equal(got, want) {
		t.Fatalf("ReadJournal(%.300q) = %.300v, %d, line %d; want %.300v, %d, line %d", text, got, code, line, want, wantCode, wantLine)
	}
	return code
}

func TestP11JournalsAsTheyAreWritten(t *testing.T) {
	text, code := impl.JournalText(chainByWords(dayEvents()[:4]))
	if code != impl.OK || text != "181747959 1 1 500 cash\n428180296 2 2 -20 \n778390160 3 1 70 a  b\n353120265 4 9 -1000000000  ~ \n" {
		t.Errorf("JournalText = %q, %d", text, code)
	}
	for _, none := range [][]impl.Entry{nil, {}} {
		if text, code := impl.JournalText(none); text != "" || code != impl.OK {
			t.Errorf("JournalText of none = %q, %d", text, code)
		}
	}
}

func wantToldBack(t *testing.T, list []impl.Entry) {
	t.Helper()
	text, code := impl.JournalText(list)
	if code != impl.OK || text != textByWords(list) {
		t.Fatalf("JournalText(%.300v) = %.300q, %d", list, text, code)
	}
	wantJournalRead(t, "read back", text, list)
}

func TestP11WhatIsWrittenIsReadAsItWas(t *testing.T) {
	wantToldBack(t, nil)
	wantToldBack(t, chainByWords(dayEvents()))
	wantToldBack(t, chainByWords(manyEvents(impl.MaxEntries)))
	wantToldBack(t, chainByWords(longEvents(impl.MaxEntries)))
	for _, e := range rightEvents() {
		wantToldBack(t, chainByWords(entriesOf(e)))
		wantToldBack(t, chainByWords(entriesOf(event(1, 1, ""), e, e)))
	}
	r := fixed()
	for range 2000 {
		wantToldBack(t, chainByWords(someEvents(r, r.IntN(12))))
	}
}

// lineAt tells in which line, from 1 on, the byte stands; the byte 10 at its end is a line's, too.
func lineAt(text string, at int) int { return 1 + strings.Count(text[:at], "\n") }

func TestP11OneByteChangedIsToldInItsLine(t *testing.T) {
	text := textByWords(chainByWords(dayEvents()))
	for at := range len(text) {
		for b := range 256 {
			if text[at] == byte(b) {
				wantJournalRead(t, "nothing changed", text, chainByWords(dayEvents()))
				continue
			}
			changed := text[:at] + string([]byte{byte(b)}) + text[at+1:]
			got, code, line := impl.ReadJournal(changed)
			if code == impl.OK || len(got) != 0 {
				t.Fatalf("byte %d made %d is not found: %q", at, b, changed)
			}
			if b == 10 { // one line has become two: the second may be the one that is none
				if want := lineAt(text, at); line != want && (code != impl.ErrSyntax || line != want+1) {
					t.Fatalf("byte %d made an end is told in line %d, not %d: %d", at, line, want, code)
				}
			} else if line != lineAt(text, at) {
				t.Fatalf("byte %d made %d is told in line %d, not %d: %d", at, b, line, lineAt(text, at), code)
			}
			wantSameJournal(t, changed)
		}
	}
}

func TestP11OneByteChangedInALongJournal(t *testing.T) {
	r := fixed()
	list := chainByWords(someEvents(r, impl.MaxEntries))
	text := textByWords(list)
	for range 3000 {
		at, b := r.IntN(len(text)), byte(11+r.IntN(245))
		if text[at] == b {
			continue
		}
		changed := text[:at] + string([]byte{b}) + text[at+1:]
		if got, code, line := impl.ReadJournal(changed); code == impl.OK || line != lineAt(text, at) || len(got) != 0 {
			t.Fatalf("byte %d made %d: %d, line %d, not %d", at, b, code, line, lineAt(text, at))
		}
	}
	for at := range len(text) { // a line more than there may be, ahead of what is wrong with it
		if text[at] != 10 && r.IntN(40) == 0 {
			wantJournalUnread(t, "an end put in", text[:at]+"\n"+text[at+1:], impl.ErrMany, 0)
		}
	}
}

// An entry that is made anew has the sum that fits it: it is the next one, with its sum behind the old entry, that is told.
func TestP11AnEntryMadeAnewIsToldAtTheNextOne(t *testing.T) {
	right := chainByWords(dayEvents())
	for place := range right {
		forged := dayEvents()
		forged[place].Amount /= 2
		if forged[place].Amount == right[place].Amount {
			forged[place].Amount = 1
		}
		mixed := slices.Concat(chainByWords(forged)[:place+1], right[place+1:])
		if place == len(right)-1 {
			wantJournalRead(t, "the last one made anew", textByWords(mixed), mixed) // none follows that could tell
			continue
		}
		wantJournalUnread(t, "one made anew", textByWords(mixed), impl.ErrSum, place+2)
		wantJournalFault(t, "one made anew", mixed, impl.ErrSum, place+1)
	}
}

func TestP11ALineLeftOut(t *testing.T) {
	right := chainByWords(dayEvents())
	lines := strings.SplitAfter(textByWords(right), "\n")[:len(right)]
	for at := range lines {
		left := strings.Join(slices.Delete(slices.Clone(lines), at, at+1), "")
		if at == len(lines)-1 {
			wantJournalRead(t, "the last line left out", left, right[:at])
			continue
		}
		wantJournalUnread(t, "a line left out", left, impl.ErrForm, at+1)
		for other := at + 1; other < len(lines); other++ {
			swapped := slices.Clone(lines)
			swapped[at], swapped[other] = swapped[other], swapped[at]
			wantJournalUnread(t, "two lines exchanged", strings.Join(swapped, ""), impl.ErrForm, at+1)
		}
		wantJournalUnread(t, "a line twice", strings.Join(slices.Insert(slices.Clone(lines), at, lines[at]), ""), impl.ErrForm, at+2)
	}
}

func TestP11LinesAndTheirEnds(t *testing.T) {
	right := chainByWords(dayEvents()[:3])
	text := textByWords(right)
	wantJournalRead(t, "no text", "", nil)
	wantJournalRead(t, "a last line that is not ended", text[:len(text)-1], right)
	blank := chainByWords(dayEvents()[:2])
	wantJournalRead(t, "a last line without a Text that is not ended", strings.TrimSuffix(textByWords(blank), "\n"), blank)
	wantJournalUnread(t, "the blank behind its Amount is gone, too", strings.TrimSuffix(textByWords(blank), " \n"), impl.ErrSyntax, 2)
	wantJournalUnread(t, "an empty line alone", "\n", impl.ErrSyntax, 1)
	wantJournalUnread(t, "an empty line ahead", "\n"+text, impl.ErrSyntax, 1)
	wantJournalUnread(t, "an empty line behind", text+"\n", impl.ErrSyntax, 4)
	wantJournalUnread(t, "an empty line between", strings.Replace(text, "\n", "\n\n", 1), impl.ErrSyntax, 2)
	wantJournalUnread(t, "a blank behind", text+" ", impl.ErrSyntax, 4)
	wantJournalUnread(t, "a remark is no entry", "# day\n"+text, impl.ErrSyntax, 1)
	wantJournalUnread(t, "a remark behind", text+"# day\n", impl.ErrSyntax, 4)
	wantJournalUnread(t, "a byte behind", text+"x", impl.ErrSyntax, 4)
	wantJournalUnread(t, "other ends of lines", strings.ReplaceAll(text, "\n", "\r\n"), impl.ErrBad, 1)
	wantJournalUnread(t, "a byte 0 behind", text+"\x00", impl.ErrSyntax, 4)
}

func entryLine(sum, seq, kind, amount, text string) string {
	return sum + " " + seq + " " + kind + " " + amount + " " + text + "\n"
}

func textsThatAreNoNumbers() []string {
	return []string{"", "-", "+1", "+0", "-0", "00", "01", "-01", "007", "1.0", "1e3", "0x1", "1_0", "x", "1x", "x1", "--1", "1-", "\t1", "1\t", "\xff", "１", "1000000000000000000", "-1000000000000000000", "9223372036854775807", "9223372036854775808", "-9223372036854775808", "18446744073709551617", "0000000000000000001", strings.Repeat("9", 400)}
}

func TestP11NumbersThatAreNone(t *testing.T) {
	sum := strconv.Itoa(sumByWords(1, "1 1 500 cash"))
	right := entryLine(sum, "1", "1", "500", "cash")
	wantJournalRead(t, "a line by another hand", right, chainByWords(dayEvents()[:1]))
	for _, none := range textsThatAreNoNumbers() {
		for at, line := range []string{entryLine(none, "1", "1", "500", "cash"), entryLine(sum, none, "1", "500", "cash"), entryLine(sum, "1", none, "500", "cash"), entryLine(sum, "1", "1", none, "cash")} {
			wantJournalUnread(t, fmt.Sprintf("no number at %d", at), line, impl.ErrSyntax, 1)
			wantJournalUnread(t, fmt.Sprintf("no number at %d of a later line", at), right+right+line+"\n", impl.ErrSyntax, 3)
		}
	}
	for _, line := range []string{"x", "1", "1 ", "1 1", "1 1 ", "1 1 1", "1 1 1 ", "1 1 1 1", sum + " 1 1 500", " " + right, "  " + right, sum + "  1 1 500 cash", sum + " 1  1 500 cash", sum + " 1 1  500 cash", sum + "\t1 1 500 cash", sum + " 1 1 500\tcash", "+" + right, "0" + right} {
		wantJournalUnread(t, "a line that is none", line, impl.ErrSyntax, 1)
	}
	wantJournalUnread(t, "a number's text, but of another number", "-"+right, impl.ErrSum, 1)
}

// Numbers that are none of an entry's are numbers' texts all the same.
func TestP11NumbersOutOfTheirBounds(t *testing.T) {
	sum := strconv.Itoa(sumByWords(1, "1 1 500 cash"))
	for _, number := range []string{"-1", "-999999999999999999", "999999999999999999", "100000000000000000", "10000000000"} {
		wantJournalUnread(t, "a Sum", entryLine(number, "1", "1", "500", "cash"), impl.ErrSum, 1)
		wantJournalUnread(t, "a Seq", entryLine(sum, number, "1", "500", "cash"), impl.ErrForm, 1)
		wantJournalUnread(t, "a Kind", entryLine(sum, "1", number, "500", "cash"), impl.ErrBad, 1)
	}
	for _, number := range []string{"1000000001", "-1000000001", "999999999999999999", "-999999999999999999"} {
		wantJournalUnread(t, "an Amount", entryLine(sum, "1", "1", number, "cash"), impl.ErrBad, 1)
	}
	for _, amount := range []string{"1000000000", "-1000000000", "0", "-1"} {
		sum := strconv.Itoa(sumByWords(1, "1 9 "+amount+" "))
		wantJournalRead(t, "an Amount at its end", entryLine(sum, "1", "9", amount, ""), chainByWords(entriesOf(event(9, asNumber(amount), ""))))
	}
	for _, kind := range []string{"0", "10"} {
		sum := strconv.Itoa(sumByWords(1, "1 "+kind+" 5 "))
		wantJournalUnread(t, "a Kind beyond its end", entryLine(sum, "1", kind, "5", ""), impl.ErrBad, 1)
	}
	wantJournalUnread(t, "a Sum beyond Prime", entryLine(strconv.Itoa(sumByWords(1, "1 1 500 cash")+impl.Prime), "1", "1", "500", "cash"), impl.ErrSum, 1)
}

// A Text of any bytes is a line's; whether it is an entry's is asked behind.
func TestP11TextsOfAnyBytes(t *testing.T) {
	for _, e := range wrongEvents() {
		text := textByWords(chainByWords(entriesOf(event(1, 1, ""), e)))
		if len(text) > impl.MaxText {
			wantJournalUnread(t, "a text that is too long", text, impl.ErrLong, 0)
			continue
		}
		if strings.Contains(e.Text, "\n") { // what stands behind it is another line
			wantSameJournal(t, text)
			continue
		}
		want := impl.ErrBad
		if len(strconv.Itoa(e.Kind)) > 18 || len(strconv.Itoa(e.Amount)) > 18 {
			want = impl.ErrSyntax
		}
		wantJournalUnread(t, fmt.Sprintf("a wrong entry %.100v", e), text, want, 2)
	}
	for _, e := range rightEvents() {
		wantSameJournal(t, textByWords(chainByWords(entriesOf(e, e))))
	}
}

func TestP11AsManyLinesAsThereMayBe(t *testing.T) {
	full := chainByWords(longEvents(impl.MaxEntries))
	text := textByWords(full)
	wantJournalRead(t, "as many as may be", text, full)
	wantJournalRead(t, "as many as may be, the last not ended", text[:len(text)-1], full)
	for _, behind := range []string{"\n", "x", "x\n", " ", "\x00", textByWords(chainByWords(longEvents(impl.MaxEntries + 1))[impl.MaxEntries:])} {
		wantJournalUnread(t, "one more", text+behind, impl.ErrMany, 0)
	}
	wantJournalUnread(t, "as many as may be that are none", strings.Repeat("\n", impl.MaxEntries), impl.ErrSyntax, 1)
	wantJournalUnread(t, "one more that is none", strings.Repeat("\n", impl.MaxEntries+1), impl.ErrMany, 0)
	wantJournalUnread(t, "a last line makes one more", strings.Repeat("\n", impl.MaxEntries)+"x", impl.ErrMany, 0)
	wantJournalUnread(t, "lines alone up to the limit", strings.Repeat("\n", impl.MaxText), impl.ErrMany, 0)
}

func TestP11TextsAtTheLimit(t *testing.T) {
	wantJournalUnread(t, "lines alone beyond the limit", strings.Repeat("\n", impl.MaxText+1), impl.ErrLong, 0)
	wantJournalUnread(t, "a line that is none, at the limit", strings.Repeat("x", impl.MaxText), impl.ErrSyntax, 1)
	wantJournalUnread(t, "a line that is none, beyond it", strings.Repeat("x", impl.MaxText+1), impl.ErrLong, 0)
	first := textByWords(chainByWords(dayEvents()[:1]))
	room := impl.MaxText - len(first) - len("5 2 1 1 ")
	wantJournalUnread(t, "a Text up to the limit", first+"5 2 1 1 "+strings.Repeat("x", room), impl.ErrBad, 2)
	wantJournalUnread(t, "a Text beyond it", first+"5 2 1 1 "+strings.Repeat("x", room+1), impl.ErrLong, 0)
	wantJournalUnread(t, "far beyond it", strings.Repeat(first, 20000), impl.ErrLong, 0)
}

func TestP11WhichFaultOfATextComesFirst(t *testing.T) {
	right := chainByWords(dayEvents())
	lines := strings.SplitAfter(textByWords(right), "\n")[:len(right)]
	spoil := map[int]func(e *impl.Entry){
		impl.ErrBad:  func(e *impl.Entry) { e.Kind = 0 },
		impl.ErrForm: func(e *impl.Entry) { e.Seq = 77 },
		impl.ErrSum:  func(e *impl.Entry) { e.Sum ^= 1 },
	}
	for a := range right {
		for b := range right {
			for first, one := range spoil {
				wrong := right[a]
				one(&wrong)
				told := slices.Clone(lines)
				told[a] = textByWords(entriesOf(wrong))
				wantJournalUnread(t, "one fault", strings.Join(told, ""), first, a+1)
				if b == a {
					continue
				}
				told[b] = "no entry\n"
				wantJournalUnread(t, "a line that is none, ahead or behind", strings.Join(told, ""), impl.ErrSyntax, b+1)
				for second, other := range spoil {
					also := right[b]
					other(&also)
					told[b] = textByWords(entriesOf(also))
					code, line := first, a+1
					if b < a {
						code, line = second, b+1
					}
					wantJournalUnread(t, "two faults", strings.Join(told, ""), code, line)
				}
			}
		}
	}
	wantJournalUnread(t, "of two lines that are none the first", lines[0]+"x\n"+lines[2]+"y\n", impl.ErrSyntax, 2)
	wantJournalUnread(t, "too many ahead of lines that are none", "x\n"+strings.Repeat(lines[0], impl.MaxEntries), impl.ErrMany, 0)
	wantJournalUnread(t, "too long ahead of too many", strings.Repeat("x\n", impl.MaxText/2)+"x", impl.ErrLong, 0)
}

// A Text may be made so that a blank behind the Sum, changed to a digit, makes another line with its right sum; as the sum is told both are journals.
func TestP11ALineThatReadsTwoWays(t *testing.T) {
	wantJournalRead(t, "with a blank", "3576070 1 1 1 10 y8co8s0h\n", entriesOf(impl.Entry{Seq: 1, Kind: 1, Amount: 1, Text: "10 y8co8s0h", Sum: 3576070}))
	wantJournalRead(t, "with a digit", "357607001 1 1 10 y8co8s0h\n", entriesOf(impl.Entry{Seq: 1, Kind: 1, Amount: 10, Text: "y8co8s0h", Sum: 357607001}))
}

// torn changes some bytes of a text, or none.
func torn(r *rand.Rand, text string) string {
	bytes := []byte(text)
	pieces := []string{"\n", " ", "-", "0", "1", "12 ", "9", "x", "\x1f", "~", "\x7f", "\xff", "ä", "\n\n", "1 1 1 1 1\n", "  "}
	for range r.IntN(3) {
		at, behind := r.IntN(len(bytes)+1), 0
		if at < len(bytes) {
			behind = at + r.IntN(min(3, len(bytes)-at+1))
		}
		switch r.IntN(4) {
		case 0:
			if at < len(bytes) {
				bytes[at] = byte(r.IntN(256))
			}
		case 1:
			bytes = slices.Insert(bytes, at, []byte(pieces[r.IntN(len(pieces))])...)
		case 2:
			if behind > at {
				bytes = slices.Delete(bytes, at, min(behind, len(bytes)))
			}
		case 3:
			if at < len(bytes) {
				bytes = slices.Insert(bytes, at, bytes[at])
			}
		}
	}
	return string(bytes)
}

func TestP11ReadByWords(t *testing.T) {
	r := fixed()
	seen := map[int]int{}
	for range 30000 {
		list := chainByWords(someEvents(r, r.IntN(6)))
		if r.IntN(3) == 0 {
			list = touched(r, list)
		}
		seen[wantSameJournal(t, torn(r, textByWords(list)))]++
	}
	for _, code := range []int{impl.OK, impl.ErrSyntax, impl.ErrBad, impl.ErrForm, impl.ErrSum} {
		if seen[code] < 300 {
			t.Errorf("too few draws of one kind: %v", seen)
		}
	}
}

// What is read is checked, counted and written like any other journal.
func TestP11TheDrawerOfAJournalThatWasRead(t *testing.T) {
	r := fixed()
	for range 300 {
		list := chainByWords(someEvents(r, r.IntN(10)))
		read, code, _ := impl.ReadJournal(textByWords(list))
		if code != impl.OK {
			t.Fatal("ReadJournal", code)
		}
		wantJournal(t, "what was read", read)
		sum := 0
		for _, e := range list {
			sum += e.Amount
		}
		counted := max(-most, min(most, sum))
		wantOff(t, "what is in it, as far as it can be counted", read, counted, counted-sum)
	}
}

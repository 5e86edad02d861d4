package tests

import (
	"fmt"
	"math/rand/v2"
	"regexp"
	"slices"
	"strconv"
	"strings"
	"testing"

	"loop.example/g00067/impl"
)

// asLine are a line's words, one blank between them.
func asLine(line string) string {
	return strings.Join(strings.FieldsFunc(line, func(r rune) bool { return r == ' ' }), " ")
}

const (
	numberForm = `(?:0|-?[1-9][0-9]{0,17})`
	termForm   = `(qty|amount|hour|day|age) (>=|<=|=) (` + numberForm + `)`
)

var (
	lineForm  = regexp.MustCompile(`^rule ([^ ]+)( when ` + termForm + `(?: and ` + termForm + `)*)? then (?:(percent|off) (` + numberForm + `)|(deny))$`)
	termsForm = regexp.MustCompile(`(?: when | and )` + termForm)
)

func numberOfWord(rows []ruleWord, word string) ruleWord {
	at := slices.IndexFunc(rows, func(row ruleWord) bool { return row.word == word })
	return rows[at]
}

func asNumber(text string) int {
	n, err := strconv.Atoi(text)
	if err != nil {
		panic(err)
	}
	return n
}

// lineByWords reads one line by its form and tells its first fault, but for those that other lines take part in.
func lineByWords(line string) (impl.Clause, int) {
	found := lineForm.FindStringSubmatch(asLine(line))
	if found == nil || !impl.NameOK(found[1]) {
		return impl.Clause{}, impl.ErrSyntax
	}
	act := numberOfWord(actWords(), found[9]+found[11])
	rule := impl.Clause{Name: found[1], Act: act.number}
	beyond := false
	for _, words := range termsForm.FindAllStringSubmatch(found[2], -1) {
		field, num := numberOfWord(fieldWords(), words[1]), asNumber(words[3])
		beyond = beyond || num < field.least || num > field.most
		rule.Terms = append(rule.Terms, term(field.number, numberOfWord(opWords(), words[2]).number, num))
	}
	if found[10] != "" {
		rule.Num = asNumber(found[10])
	}
	if len(rule.Terms) > impl.MaxTerms {
		return rule, impl.ErrMany
	}
	if beyond || rule.Num < act.least || rule.Num > act.most {
		return rule, impl.ErrRange
	}
	return rule, impl.OK
}

func rulesByWords(text string) ([]impl.Clause, int, int) {
	var rules []impl.Clause
	for at, line := range strings.Split(text, "\n") {
		if line = asLine(line); line == "" || line[0] == '#' {
			continue
		}
		rule, code := lineByWords(line)
		if code == impl.OK && slices.ContainsFunc(rules, func(ahead impl.Clause) bool { return ahead.Name == rule.Name }) {
			code = impl.ErrTwice
		}
		if code == impl.OK && len(rules) == impl.MaxClauses {
			code = impl.ErrMany
		}
		if code != impl.OK {
			return nil, code, at + 1
		}
		rules = append(rules, rule)
	}
	return rules, impl.OK, 0
}

func wantRead(t *testing.T, text string, want ...impl.Clause) {
	t.Helper()
	rules, code, line := impl.ReadRules(text)
	if !sameRules(rules, want) || code != impl.OK || line != 0 {
		t.Errorf("ReadRules(%.200q): %v, %d, %d, not %v", text, rules, code, line, want)
	}
}

func wantUnread(t *testing.T, text string, wantCode, wantLine int) {
	t.Helper()
	rules, code, line := impl.ReadRules(text)
	if len(rules) != 0 || code != wantCode || line != wantLine {
		t.Errorf("ReadRules(%.200q): %.200v, %d, %d, not %d, %d", text, rules, code, line, wantCode, wantLine)
	}
}

func TestP7LinesAreRead(t *testing.T) {
	a, b := deny("a"), ruleOf("b", impl.AcOff, 7, term(impl.FdDay, impl.OpIs, 3))
	for _, text := range []string{
		"rule a then deny\nrule b when day = 3 then off 7\n",
		"rule a then deny\nrule b when day = 3 then off 7",
		"  rule a   then deny \n rule   b when day  =  3 then  off 7   ",
		"\n\nrule a then deny\n\n   \nrule b when day = 3 then off 7\n\n",
		"# one\nrule a then deny\n   #two rule c then deny\n#\n##\nrule b when day = 3 then off 7\n# then",
		"#\xff\xfe \x00\nrule a then deny\n#\xe2\x82\nrule b when day = 3 then off 7\n#\xc3",
		"#" + strings.Repeat(" ", 1000) + "\r\nrule a then deny\nrule b when day = 3 then off 7\n \n ",
	} {
		wantRead(t, text, a, b)
	}
	for _, text := range []string{"", "\n", "\n\n\n", " ", "   \n ", "#", "# x", "#\n", " # rule a then deny", "#\xff", "#rule a then deny\n\n#"} {
		wantRead(t, text)
	}
	wantRead(t, "rule rule when qty = 1 then deny\nrule when then deny\nrule then then percent 0\nrule and when day = 1 and day = 2 then deny\nrule deny then deny",
		deny("rule", term(impl.FdQty, impl.OpIs, 1)), deny("when"), ruleOf("then", impl.AcPercent, 0), deny("and", term(impl.FdDay, impl.OpIs, 1), term(impl.FdDay, impl.OpIs, 2)), deny("deny"))
	wantRead(t, "rule käse then deny\nrule "+strings.Repeat("ж", impl.MaxName/2)+" then deny\nrule a then deny\nrule A then deny", deny("käse"), deny(strings.Repeat("ж", impl.MaxName/2)), deny("a"), deny("A"))
}

func TestP7EachFieldOpAndActIsRead(t *testing.T) {
	for _, field := range fieldWords() {
		for _, op := range opWords() {
			for _, num := range []int{field.least, field.least + 1, field.most - 1, field.most} {
				text := fmt.Sprintf("rule a when %s %s %d then deny", field.word, op.word, num)
				wantRead(t, text, deny("a", term(field.number, op.number, num)))
			}
			for _, num := range []int{field.least - 1, field.most + 1, -999999999999999999, 999999999999999999} {
				wantUnread(t, fmt.Sprintf("rule a when %s %s %d then deny", field.word, op.word, num), impl.ErrRange, 1)
				wantUnread(t, fmt.Sprintf("\nrule a when %s %s %d and %s %s %d then deny", field.word, op.word, field.most, field.word, op.word, num), impl.ErrRange, 2)
			}
		}
	}
	for _, act := range actWords()[:2] {
		for _, num := range []int{act.least, act.least + 1, act.most - 1, act.most} {
			wantRead(t, fmt.Sprintf("rule a then %s %d", act.word, num), ruleOf("a", act.number, num))
		}
		for _, num := range []int{act.least - 1, act.most + 1, -999999999999999999, 999999999999999999} {
			wantUnread(t, fmt.Sprintf("rule a then %s %d", act.word, num), impl.ErrRange, 1)
		}
	}
}

// linesThatAreNone are no rules' lines.
func linesThatAreNone() []string {
	lines := []string{
		"x", "rule", "rule a", "rule a deny", "rule a then", "rule then deny", "a then deny", "rules a then deny", "Rule a then deny", "RULE a THEN deny", "rule a Then deny", "rule a then Deny", "rule rule a then deny", "rule a b then deny", "rule a then then deny",
		"rule a then deny deny", "rule a then deny 0", "rule a then deny then deny", "rule a then deny #", "rule a then deny # note", "rule a # then deny", "rule # then deny", "rule a then deny rule b then deny",
		"rule a then percent", "rule a then percent 5 5", "rule a then percent 5 then deny", "rule a then percent off 5", "rule a then 5", "rule a then off", "rule a then off 5 6", "rule a then off percent", "rule a then 5 off", "rule a then percent 5 deny", "rule a then give 5", "rule a then percent5", "rule a then percent 5%",
		"rule a when then deny", "rule a when qty then deny", "rule a when qty >= then deny", "rule a when qty 1 then deny", "rule a when >= 1 then deny", "rule a when 1 <= qty then deny", "rule a when qty >= 1", "rule a when qty >= 1 deny", "rule a when qty >= 1 2 then deny", "rule a qty >= 1 then deny",
		"rule a and qty >= 1 then deny", "rule a when and qty >= 1 then deny", "rule a when qty >= 1 and then deny", "rule a when qty >= 1 and", "rule a when qty >= 1 when day = 1 then deny", "rule a when qty >= 1 day = 1 then deny", "rule a when qty >= 1 and and day = 1 then deny", "rule a when when qty >= 1 then deny", "rule a when qty >= 1 and when day = 1 then deny", "rule a when qty >= 1 or day = 1 then deny", "rule a then deny when qty >= 1", "rule a then deny and qty >= 1",
		"rule a when qty > 1 then deny", "rule a when qty < 1 then deny", "rule a when qty == 1 then deny", "rule a when qty => 1 then deny", "rule a when qty =< 1 then deny", "rule a when qty != 1 then deny", "rule a when qty>=1 then deny", "rule a when qty >=1 then deny", "rule a when qty>= 1 then deny", "rule a when Qty >= 1 then deny", "rule a when quantity >= 1 then deny", "rule a when q >= 1 then deny", "rule a when qty qty >= 1 then deny", "rule a when qty >= >= 1 then deny", "rule a when percent >= 1 then deny",
		"rule\ta then deny", "rule a then deny\r", "rule a then deny\t", "\trule a then deny", "rule a then deny\v", "rule a\u00a0then deny", "\r", "\t", "\x00", "\xff", "rule a then deny\x00", "rule a then deny\xff", "rule a then \xffdeny", "\xffrule a then deny", "\xff# a", "rule a then deny \xc3", "rule a then percent \xff5", "rule a then percent 5\xc3", "rule a when qty\xff >= 1 then deny", "\u2003rule a then deny", "\ufeffrule a then deny", "rule a then deny;", "-", "0", ";", "//",
		strings.Repeat("x", impl.MaxText), strings.Repeat("x ", impl.MaxText/2), "rule a then off " + strings.Repeat("0", 60000), "rule " + strings.Repeat("a", 60000) + " then deny",
	}
	for _, name := range textsThatAreNoNames() {
		if len(name) < impl.MaxText && !strings.Contains(strings.Trim(name, " "), " ") {
			lines = append(lines, "rule "+name+" then deny", "rule "+name+" when qty = 1 then deny")
		}
	}
	for _, number := range []string{"", "-", "+1", "-0", "00", "01", "-01", "1.0", "1,0", "1e1", "0x1", "1_0", " - 1", "--1", "1-", "a", "٣", "½", "1000000000000000000", "-1000000000000000000", "0000000000000000001", "9223372036854775807", "99999999999999999999", "18446744073709551617", "\x001", "1\x00", "\xff"} {
		lines = append(lines, "rule a when amount >= "+number+" then deny", "rule a then off "+number, "rule a when qty = 1 and amount <= "+number+" then percent 0")
	}
	return lines
}

func TestP7LinesThatAreNone(t *testing.T) {
	for _, line := range linesThatAreNone() {
		wantUnread(t, line, impl.ErrSyntax, 1)
		if len(line) > impl.MaxText/2 {
			continue
		}
		wantUnread(t, line+"\n", impl.ErrSyntax, 1)
		wantUnread(t, "rule first then deny\n\n# third\n  "+line+"\nrule a then deny\n", impl.ErrSyntax, 4)
	}
}

// lineOf is a line of so many terms, all right.
func lineOf(name string, terms int) string {
	line := "rule " + name
	for at := range terms {
		line += []string{" when", " and"}[min(at, 1)] + " qty >= 1"
	}
	return line + " then deny"
}

// ruleLines are so many lines, all right, each of a name of its own.
func ruleLines(count int) string {
	text := ""
	for _, name := range someNames(count) {
		text += "rule " + name + " then deny\n"
	}
	return text
}

func TestP7AsManyTermsAndRulesAsThereMayBe(t *testing.T) {
	wantRead(t, lineOf("a", impl.MaxTerms), deny("a", slices.Repeat([]impl.Term{term(impl.FdQty, impl.OpLeast, 1)}, impl.MaxTerms)...))
	wantUnread(t, lineOf("a", impl.MaxTerms+1), impl.ErrMany, 1)
	wantUnread(t, "rule b then deny\n"+lineOf("a", 4000), impl.ErrMany, 2)
	wantRead(t, ruleLines(impl.MaxClauses), manyRules(impl.MaxClauses)...)
	wantRead(t, "#\n\n"+ruleLines(impl.MaxClauses)+"# more\n\n", manyRules(impl.MaxClauses)...)
	wantUnread(t, ruleLines(impl.MaxClauses+1), impl.ErrMany, impl.MaxClauses+1)
	wantUnread(t, "# one\n"+ruleLines(impl.MaxClauses)+"\n"+"rule a then deny\nx", impl.ErrMany, impl.MaxClauses+3)
}

func TestP7NamesThatComeTwice(t *testing.T) {
	wantUnread(t, "rule a then deny\nrule a then deny", impl.ErrTwice, 2)
	wantUnread(t, "rule a then deny\nrule b then deny\n#\nrule a when day = 1 then off 5\nrule b then deny", impl.ErrTwice, 4)
	wantUnread(t, strings.Repeat("rule a then deny\n", 50), impl.ErrTwice, 2)
	wantRead(t, "# rule a then deny\nrule a then deny\n# rule a then deny", deny("a"))
}

// faultLines are lines in the order of their faults, each with the fault of its code and all that come behind it, where rule a stands ahead.
func faultLines() []struct {
	line string
	code int
} {
	return []struct {
		line string
		code int
	}{
		{lineOf("a", impl.MaxTerms+1) + " and", impl.ErrSyntax},
		{strings.Replace(lineOf("a", impl.MaxTerms+1), "1 then", "01 then", 1), impl.ErrSyntax},
		{strings.Replace(lineOf("a", impl.MaxTerms+1), "qty >= 1", "qty >= 0", 1) + " 5", impl.ErrSyntax},
		{strings.Replace(lineOf("a", impl.MaxTerms+1), "qty >= 1", "qty >= 0", 1), impl.ErrMany},
		{strings.Replace(lineOf("a", impl.MaxTerms+1), "deny", "percent 101", 1), impl.ErrMany},
		{lineOf("a", impl.MaxTerms+1), impl.ErrMany},
		{"rule a when qty >= 0 then deny", impl.ErrRange},
		{"rule a when day = 3 and hour = 24 then deny", impl.ErrRange},
		{"rule a then percent 101", impl.ErrRange},
		{"rule a then off -1", impl.ErrRange},
		{"rule a then deny", impl.ErrTwice},
	}
}

func TestP7WhichFaultOfALineComesFirst(t *testing.T) {
	for _, fault := range faultLines() {
		wantUnread(t, "rule a then deny\n"+fault.line, fault.code, 2)
		wantUnread(t, "rule a then deny\n"+ruleLines(impl.MaxClauses-1)+fault.line, fault.code, impl.MaxClauses+1)
	}
}

func TestP7OfTwoLinesTheFirstCounts(t *testing.T) {
	for _, first := range faultLines() {
		for _, second := range faultLines() {
			wantUnread(t, "rule a then deny\n"+first.line+"\n\n"+second.line+"\n", first.code, 2)
		}
		wantUnread(t, "rule a then deny\n"+ruleLines(impl.MaxClauses)+first.line, impl.ErrMany, impl.MaxClauses+1)
	}
}

func TestP7TextsAtTheLimit(t *testing.T) {
	rule := "rule a then deny\n"
	wantRead(t, rule+strings.Repeat("\n", impl.MaxText-len(rule)), deny("a"))
	wantRead(t, rule+strings.Repeat(" ", impl.MaxText-len(rule)), deny("a"))
	wantRead(t, strings.Repeat(" ", impl.MaxText-len(rule))+rule, deny("a"))
	wantRead(t, rule+strings.Repeat("#", impl.MaxText-len(rule)), deny("a"))
	wantUnread(t, rule+strings.Repeat("\n", impl.MaxText-len(rule)-1)+"x", impl.ErrSyntax, impl.MaxText-len(rule)+1)
	for _, text := range []string{rule + strings.Repeat("\n", impl.MaxText-len(rule)+1), strings.Repeat("#", impl.MaxText+1), strings.Repeat("x", impl.MaxText+1), strings.Repeat("\xff", 2*impl.MaxText), strings.Repeat(rule, impl.MaxText)} {
		wantUnread(t, text, impl.ErrLong, 0)
	}
}

func TestP7BytesThatAreNoRunes(t *testing.T) {
	for b := range 256 {
		one := string([]byte{byte(b)})
		for _, text := range []string{one, "rule a" + one + " then deny", "rule " + one + "a then deny", "rule a then deny" + one, one + "rule a then deny", "rule a " + one + " then deny", "#" + one + "x", "rule a then percent 5" + one, "rule a when qty " + one + "= 5 then deny", "rule ä then" + one + "deny\nx"} {
			wantSameRead(t, text)
		}
	}
}

func wantSameRead(t *testing.T, text string) int {
	t.Helper()
	rules, code, line := impl.ReadRules(text)
	wantRules, wantCode, wantLine := rulesByWords(text)
	if !sameRules(rules, wantRules) || code != wantCode || line != wantLine {
		t.Errorf("ReadRules(%q): %v, %d, %d, not %v, %d, %d", text, rules, code, line, wantRules, wantCode, wantLine)
	}
	return code
}

// spoiled changes a few words of a text, or none.
func spoiled(r *rand.Rand, text string) string {
	words := strings.SplitAfter(text, " ")
	others := []string{"rule ", "when ", "and ", "then ", "deny ", "percent ", "off ", "qty ", "amount ", "hour ", "day ", "age ", ">= ", "<= ", "= ", "0 ", "7 ", "8 ", "-1 ", "24 ", "101 ", "1000001 ", "n0 ", "n1 ", "# ", "\n", "", "  ", "\xff ", "ä ", "01 ", "and day = 3 ", "and day = 8 and hour <= 23 ", "\nrule more then deny\n"}
	for range r.IntN(4) {
		at := r.IntN(len(words))
		switch r.IntN(4) {
		case 0:
			words[at] = others[r.IntN(len(others))]
		case 1:
			words = slices.Insert(words, at, others[r.IntN(len(others))])
		case 2:
			words = slices.Insert(words, at, words[r.IntN(len(words))])
		case 3:
			words[at] = " " + words[at] + " "
		}
	}
	return strings.Join(words, "")
}

func TestP7ReadByWords(t *testing.T) {
	r := fixed()
	seen := map[int]int{}
	for range 20000 {
		rules := someRules(r, r.IntN(4))
		if r.IntN(200) == 0 {
			rules = someRules(r, impl.MaxClauses)
		}
		text, code := impl.RulesText(rules)
		if code != impl.OK {
			t.Fatal("RulesText", rules, code)
		}
		seen[wantSameRead(t, spoiled(r, text))]++
	}
	for _, code := range []int{impl.OK, impl.ErrSyntax, impl.ErrMany, impl.ErrRange, impl.ErrTwice} {
		if seen[code] == 0 {
			t.Errorf("no text has the code %d", code)
		}
	}
}

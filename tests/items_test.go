package tests

import (
	"fmt"
	"math"
	"slices"
	"strings"
	"testing"

	"loop.example/g00067/impl"
)

func unitCode(number int) string { return closing(fmt.Sprintf("%07d", number)) }

func gramsCode(article string, grams int) string {
	return closing(fmt.Sprintf("20%s%05d", article, grams))
}

func pricedCode(article string, price int) string {
	return closing(fmt.Sprintf("21%s%05d", article, price))
}

// itemOf is right but for what is changed of it.
func itemOf(code string, change ...func(item *impl.Item)) impl.Item {
	item := impl.Item{Code: code, Price: 100, Deposit: 25, Class: 1, Age: 18}
	for _, c := range change {
		c(&item)
	}
	return item
}

func manyItems(count int) []impl.Item {
	var items []impl.Item
	for i := range count {
		items = append(items, itemOf(unitCode(i)))
	}
	return items
}

func rightItemCodes() []string {
	return []string{"12345", "00000", "99999", "20000", "21000", "96385074", "4006381333931", closing("2000000"), closing("2112345"), closing("000000000000"), closing("123456789012"), closing("912345678901"), closing("020123450067")}
}

func wrongItemCodes() []string {
	return []string{
		"", "1", "1234", "123456", "1234a", "12 45", " 12345", "-1234", "+1234", "12.45", "1234\xff", "1234\x00", "\xd9\xa1\xd9\xa2\xd9", "milk", "abcde",
		"96385075", "4006381333932", "9638507", "963850744", "400638133393", "40063813339312", "9638507a", "400638133393a",
		gramsCode("12345", 500), pricedCode("12345", 500), closing("221234500678"), closing("291234500678"), closing("200000000000"),
		strings.Repeat("1", impl.MaxText), strings.Repeat("1", impl.MaxText+1),
	}
}

func rightItems() [][]impl.Item {
	lists := [][]impl.Item{nil, {}, shopItems(), manyItems(1), manyItems(impl.MaxItems), {{Code: "12345", Class: 1}}}
	var all []impl.Item
	for _, code := range rightItemCodes() {
		lists = append(lists, []impl.Item{itemOf(code)})
		all = append(all, itemOf(code))
	}
	lists = append(lists, all)
	for _, cost := range []int{0, 1, impl.MaxCost - 1, impl.MaxCost} {
		lists = append(lists, []impl.Item{itemOf("12345", func(item *impl.Item) { item.Price = cost }), itemOf("12346", func(item *impl.Item) { item.Deposit = cost })})
	}
	for class := 1; class <= impl.MaxClass; class++ {
		lists = append(lists, []impl.Item{itemOf("12345", func(item *impl.Item) { item.Class = class })})
	}
	for _, age := range []int{0, 1, 18, 119, 120} {
		lists = append(lists, []impl.Item{itemOf("12345", func(item *impl.Item) { item.Age = age })})
	}
	return lists
}

func wrongItems() [][]impl.Item {
	lists := [][]impl.Item{
		make([]impl.Item, 1), manyItems(impl.MaxItems + 1), manyItems(impl.MaxList), manyItems(impl.MaxList + 1), make([]impl.Item, impl.MaxItems+1),
		{itemOf("12345"), itemOf("12345")},
		{itemOf("12345"), itemOf("96385074"), itemOf("12345", func(item *impl.Item) { item.Price = 3 })},
		{itemOf("96385074"), itemOf("4006381333931"), itemOf("4006381333931")},
		append(manyItems(impl.MaxItems-1), itemOf(unitCode(0))),
	}
	var wrong []impl.Item
	for _, code := range wrongItemCodes() {
		wrong = append(wrong, itemOf(code))
	}
	for _, cost := range []int{math.MinInt, -1, impl.MaxCost + 1, math.MaxInt} {
		wrong = append(wrong, itemOf("12345", func(item *impl.Item) { item.Price = cost }), itemOf("12345", func(item *impl.Item) { item.Deposit = cost }))
	}
	for _, class := range []int{math.MinInt, -1, 0, impl.MaxClass + 1, math.MaxInt} {
		wrong = append(wrong, itemOf("12345", func(item *impl.Item) { item.Class = class }))
	}
	for _, age := range []int{math.MinInt, -1, 121, math.MaxInt} {
		wrong = append(wrong, itemOf("12345", func(item *impl.Item) { item.Age = age }))
	}
	for _, item := range wrong {
		lists = append(lists, []impl.Item{item}, []impl.Item{item, itemOf("11111")}, append(manyItems(impl.MaxItems-1), item))
	}
	return lists
}

func TestTillBounds(t *testing.T) {
	got := []int{impl.TaScan, impl.TaVoid, impl.TaShown, impl.TaSuspend, impl.TaResume, impl.TaPay, impl.MaxItems, impl.MaxCost, impl.MaxLines, impl.MaxKept, impl.MaxClass, impl.MaxActs}
	if !slices.Equal(got, []int{1, 2, 3, 4, 5, 6, 40, 1000000, 50, 5, 9, 200}) {
		t.Error("constants", got)
	}
}

func TestItemsThatAreRight(t *testing.T) {
	for _, items := range rightItems() {
		if !impl.ItemsOK(items) {
			t.Errorf("ItemsOK(%v) = false", items)
		}
		told, till, code := impl.TillRun(items, nil)
		if code != impl.OK || len(told) != 0 || !sameTill(till, emptyTill()) {
			t.Errorf("TillRun of items %v: %v, %v, %d", items, told, till, code)
		}
	}
}

func TestItemsThatAreWrong(t *testing.T) {
	for _, items := range wrongItems() {
		if impl.ItemsOK(items) {
			t.Errorf("ItemsOK(%.300v) = true", items)
		}
		want := impl.ErrBad
		if len(items) > impl.MaxList {
			want = impl.ErrLong
		}
		for _, acts := range [][]impl.TillAct{nil, {ageShown(18)}, make([]impl.TillAct, impl.MaxActs+1)} {
			told, till, code := impl.TillRun(items, acts)
			if code != want || len(told) != 0 || !sameTill(till, impl.Till{}) {
				t.Errorf("TillRun of items %.300v: %v, %v, %d; want code %d", items, told, till, code, want)
			}
		}
	}
}

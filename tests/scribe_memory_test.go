package tests

import (
	"math"
	"slices"
	"testing"

	"loop.example/g01107/impl"
)

// Guarantee 9 for chapter 7: no panic, whatever the arguments are, lists that are left as they were, and results that are new memory.

func scribeListCalls() []listCall {
	calls := []listCall{
		{"FromMarks", func(a, _ []int) []int { impl.FromMarks(a); return nil }},
		{"HalvesOf", func(a, _ []int) []int { return first(impl.HalvesOf(a)) }},
		{"TwoThirdsOf", func(a, _ []int) []int { return first(impl.TwoThirdsOf(a)) }},
		{"ProductOf", func(a, b []int) []int { return first(impl.ProductOf(a, b)) }},
	}
	for _, n := range []int{math.MinInt, -1, 0, 1, 12, 720720, million, million + 1, math.MaxInt} {
		calls = append(calls,
			listCall{"AuxiliariesOf", func(a, _ []int) []int { return first(impl.AuxiliariesOf(a, n)) }},
			listCall{"FromAuxiliaries", func(a, _ []int) []int { return first(impl.FromAuxiliaries(a, n)) }})
	}
	for _, a := range []impl.Fraction{fraction(0, 1), fraction(1, 1), fraction(5, 6), fraction(3, 1), fraction(billion, 1), none, fraction(-1, 2)} {
		for _, n := range []int{math.MinInt, 0, 1, 12, 60, 2000, 2001, math.MaxInt} {
			calls = append(calls, listCall{"CompletionOf", func(list, _ []int) []int { return first(impl.CompletionOf(a, list, n)) }})
		}
	}
	return calls
}

// scribeLists are expansions, marks, auxiliary numbers and others.
func scribeLists() [][]int {
	return slices.Concat(notExpansions, [][]int{
		nil, {1}, {2}, {3}, {2, 3}, {2, 3, 6}, {2, 3, 12}, {6, 4, 1}, {3, 2, 1}, {12, 6}, {4, 28}, {1, 2, 3, 6}, {billion}, {billion / 2},
		{0}, {0, 1, 3}, {1, 0}, {0, 19}, {0, 20}, {0, 64}, {19, 19}, {math.MinInt, math.MaxInt, math.MinInt}, {math.MaxInt, 1, math.MinInt}, {1, 0, -1},
		allMarks(), allMarks()[:19], powersOf2(12), powersOf2(24), powersOf2(25), manyDivisors, manyDivisors[1:], fullList(24), fullList(300), twos(1000),
	})
}

func TestScribeListsAreKept(t *testing.T) {
	lists := scribeLists()
	for _, c := range scribeListCalls() {
		for _, list := range append(slices.Clone(lists), upTo(1<<16), make([]int, 1<<16)) {
			checkMemory(t, c, list, []int{5, 7})
			checkMemory(t, c, list, nil)
			checkMemory(t, c, []int{5, 7}, list)
		}
	}
}

// One list may be both arguments.
func TestScribeListGivenTwice(t *testing.T) {
	x := hold([]int{3, 5})
	product, ok := impl.ProductOf(x.list()[:1], x.list()[:1])
	if !ok || !slices.Equal(product, []int{9}) || !x.isUnchanged() {
		t.Error("ProductOf", product, ok)
	}
	product[0] = canary
	product, ok = impl.ProductOf(x.list()[:2], x.list()[:2])
	if ok || product != nil || !x.isUnchanged() {
		t.Error("ProductOf", product, ok)
	}
}

// What stands behind the length of a list does not count.
func TestMarksAndTermsBehindTheLengthDoNotCount(t *testing.T) {
	marks := []int{0, 1, 1}
	if n, ok := impl.FromMarks(marks[:2]); n != 3 || !ok {
		t.Error("FromMarks", n, ok)
	}
	if n, ok := impl.FromMarks(marks); n != 0 || ok {
		t.Error("FromMarks", n, ok)
	}
	list, numbers := []int{2, 3, 5, 1}, []int{6, 4, 5}
	got, ok := impl.AuxiliariesOf(list[:2], 12)
	checkList(t, "AuxiliariesOf", list[:2], got, ok, []int{6, 4}, true)
	got, ok = impl.FromAuxiliaries(numbers[:2], 12)
	checkList(t, "FromAuxiliaries", numbers[:2], got, ok, []int{2, 3}, true)
	got, ok = impl.CompletionOf(fraction(4, 3), list[:1], 30)
	checkList(t, "CompletionOf", list[:1], got, ok, nil, false)
	got, ok = impl.CompletionOf(fraction(31, 30), list[:2], 30)
	checkList(t, "CompletionOf", list[:2], got, ok, []int{5}, true)
	got, ok = impl.CompletionOf(fraction(31, 30), list[:3], 30)
	checkList(t, "CompletionOf", list[:3], got, ok, []int{}, true)
	got, ok = impl.HalvesOf(list[:3])
	checkList(t, "HalvesOf", list[:3], got, ok, []int{4, 6, 10}, true)
	got, ok = impl.TwoThirdsOf(list[:1])
	checkList(t, "TwoThirdsOf", list[:1], got, ok, []int{4, 12}, true)
	got, ok = impl.ProductOf(list[:2], numbers[1:2])
	checkList(t, "ProductOf", list[:2], got, ok, []int{8, 12}, true)
}

// scribeCalls are all calls that return a list for two numbers.
func scribeCalls(n int, m int) []listCall {
	return []listCall{
		{"MarksOf", func(_, _ []int) []int { return first(impl.MarksOf(n)) }},
		{"DoublingsOf", func(_, _ []int) []int { return first(impl.DoublingsOf(n, m)) }},
		{"MultiplyMarks", func(_, _ []int) []int { marks, _, _ := impl.MultiplyMarks(n, m); return marks }},
		{"DivideMarks", func(_, _ []int) []int { marks, _, _ := impl.DivideMarks(n, m); return marks }},
		{"QuotientExpansion", func(_, _ []int) []int { _, list, _ := impl.QuotientExpansion(n, m); return list }},
		{"TwoOver", func(_, _ []int) []int { return first(impl.TwoOver(n)) }},
		{"SharesOf", func(_, _ []int) []int { return first(impl.SharesOf(n, m)) }},
	}
}

func TestScribeResultsAreNew(t *testing.T) {
	numbers := []int{0, 1, 2, 3, 5, 7, 11, 13, 15, 20, 21, 29, 100, 201, 203, 1000, 1001, million, million + 1}
	for _, n := range numbers {
		for _, m := range numbers {
			for _, c := range scribeCalls(n, m) {
				checkMemory(t, c, nil, nil)
			}
		}
	}
}

func TestScribesNeverPanic(t *testing.T) {
	numbers := slices.Concat(borderInts, notFactors, notOver, []int{19, 20, 21, 63, 64, 65, million})
	for _, n := range numbers {
		impl.TwoOverBase(n)
		for _, m := range numbers {
			for _, c := range scribeCalls(n, m) {
				list := c.run(nil, nil)
				if isIn := n >= 0 && n <= million; !isIn && list != nil {
					t.Error(c.name, n, m, list)
				}
			}
			a := fraction(n, m)
			for _, list := range [][]int{nil, {2, 3}, {n}, {m, n}, {n, m}} {
				impl.FromMarks(list)
				impl.AuxiliariesOf(list, n)
				impl.FromAuxiliaries(list, m)
				impl.ProductOf(list, []int{n})
				if terms, ok := impl.CompletionOf(a, list, 60); ok && !impl.IsFraction(a) || !ok && terms != nil {
					t.Error("CompletionOf", a, list, terms)
				}
			}
		}
	}
}

package tests

import (
	"math"
	"slices"
	"testing"

	"loop.example/g01107/impl"
)

// Guarantee 9 for chapter 6: no panic, whatever the arguments are, lists that are left as they were, and results that are new memory.

func nearListCalls() []listCall {
	calls := []listCall{
		{"IsRepeated", func(a, _ []int) []int { impl.IsRepeated(a); return nil }},
		{"RepeatedSum", func(a, _ []int) []int { impl.RepeatedSum(a); return nil }},
		{"ZnamFails", func(a, _ []int) []int { impl.ZnamFails(a); return nil }},
	}
	for _, d := range []int{math.MinInt, -1, 0, 1, 2, 3, 7, billion, billion + 1, math.MaxInt} {
		calls = append(calls, listCall{"IsNext", func(a, _ []int) []int { impl.IsNext(a, d); return nil }})
	}
	return calls
}

func TestNearListsAreKept(t *testing.T) {
	lists := append(nearLists(), []int{math.MinInt, math.MaxInt, math.MinInt}, upTo(1<<16), make([]int, 1<<16), twos(1<<16))
	for _, c := range nearListCalls() {
		for _, list := range lists {
			checkMemory(t, c, list, nil)
		}
	}
}

// What stands behind the length of a list does not count.
func TestNumbersBehindTheLengthDoNotCount(t *testing.T) {
	list := []int{2, 3, 5, 1}
	if sum, ok := impl.RepeatedSum(list[:2]); sum != fraction(5, 6) || !ok || !impl.IsRepeated(list[:3]) || impl.IsRepeated(list) {
		t.Error("RepeatedSum", sum, ok)
	}
	if is, ok := impl.IsNext(list[:2], 7); !is || !ok {
		t.Error("IsNext", is, ok)
	}
	if is, ok := impl.IsNext(list[:3], 7); is || ok {
		t.Error("IsNext", is, ok)
	}
	if at, ok := impl.ZnamFails(list[:2]); at != 0 || ok {
		t.Error("ZnamFails", at, ok)
	}
	if at, ok := impl.ZnamFails(list[:3]); at != 1 || !ok {
		t.Error("ZnamFails", at, ok)
	}
	if at, ok := impl.ZnamFails(list); at != 0 || ok {
		t.Error("ZnamFails", at, ok)
	}
}

// nearCalls are all calls that return one list.
func nearCalls(a impl.Fraction, k int, most int) []listCall {
	return []listCall{
		{"NearestBelow", func(_, _ []int) []int { return first(impl.NearestBelow(a, k)) }},
		{"NearestDifferent", func(_, _ []int) []int { return first(impl.NearestDifferent(a, k)) }},
		{"GreedyBelow", func(_, _ []int) []int { return first(impl.GreedyBelow(a, k)) }},
		{"LeastAbove", func(_, _ []int) []int { return first(impl.LeastAbove(a, k, most)) }},
	}
}

// oneCalls are all calls that return more lists.
func oneCalls(k int) map[string]func() ([][]int, bool) {
	return map[string]func() ([][]int, bool){
		"OneLists":     func() ([][]int, bool) { return impl.OneLists(k) },
		"OneDifferent": func() ([][]int, bool) { return impl.OneDifferent(k) },
	}
}

func TestNearResultsAreNew(t *testing.T) {
	for k := range 6 {
		for _, a := range append(nearFractions(), fraction(2, 9), fraction(13, 12), fraction(0, 1), none) {
			for _, most := range []int{0, 1, 2, 60, 61} {
				for _, c := range nearCalls(a, k, most) {
					checkMemory(t, c, nil, nil)
				}
			}
		}
		for name, call := range oneCalls(k) {
			checkApart(t, name, call)
		}
	}
}

func TestNearNeverPanics(t *testing.T) {
	numbers := append([]int{11, 13, 20, 21, 60, 61, -60}, borderInts...)
	for _, n := range numbers {
		impl.HarmonicOf(n)
		for name, call := range oneCalls(n) {
			if lists, ok := call(); ok != (1 <= n && n <= 4) || !ok && lists != nil {
				t.Error(name, n, ok)
			}
		}
		for _, m := range numbers {
			if sum, ok := impl.RangeSum(n, m); !ok && sum != none {
				t.Error("RangeSum", n, m, sum)
			}
			a := fraction(n, m)
			impl.HarmonicPast(a)
			isOne := slices.Contains(nearFractions(), a)
			for _, k := range numbers {
				isTold := isOne && 1 <= k && k <= mostOf(a)
				if gap, ok := impl.GapBelow(a, k); ok != isTold || !ok && gap != none {
					t.Error("GapBelow", a, k, gap, ok)
				}
				for _, c := range nearCalls(a, k, k) {
					if list := c.run(nil, nil); list != nil && !isTold {
						t.Error(c.name, a, k, list)
					}
				}
			}
		}
	}
}

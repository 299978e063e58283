package tests

import (
	"math"
	"slices"
	"testing"

	"loop.example/g01107/impl"
)

// Guarantee 9 for chapter 2: no panic, whatever the arguments are, lists that are left as they were, and results that are new memory.

func greedyListCalls() []listCall {
	return []listCall{
		{"IsGreedy", func(a, b []int) []int { impl.IsGreedy(a); return nil }},
		{"FromEngel", func(a, b []int) []int { impl.FromEngel(a); return nil }},
		{"IsEngel", func(a, b []int) []int { impl.IsEngel(a); return nil }},
		{"FromPierce", func(a, b []int) []int { impl.FromPierce(a); return nil }},
		{"IsPierce", func(a, b []int) []int { impl.IsPierce(a); return nil }},
		{"GrowthHolds", func(a, b []int) []int { impl.GrowthHolds(a); return nil }},
	}
}

func TestGreedyListsAreKept(t *testing.T) {
	lists := append(shortLists(), []int{math.MinInt, math.MaxInt, math.MinInt}, fullList(300), twos(300), upTo(1<<16))
	for _, c := range greedyListCalls() {
		for _, list := range lists {
			checkMemory(t, c, list, nil)
		}
	}
}

// greedyFractionCalls are all calls that return a list for a fraction.
func greedyFractionCalls(a impl.Fraction, n int) []listCall {
	return []listCall{
		{"GreedyExpansion", func(_, _ []int) []int { return first(impl.GreedyExpansion(a)) }},
		{"GreedyFrom", func(_, _ []int) []int { return first(impl.GreedyFrom(a, n)) }},
		{"NumeratorsOf", func(_, _ []int) []int { return first(impl.NumeratorsOf(a)) }},
		{"OddGreedy", func(_, _ []int) []int { return first(impl.OddGreedy(a, n)) }},
		{"EngelOf", func(_, _ []int) []int { return first(impl.EngelOf(a)) }},
		{"PierceOf", func(_, _ []int) []int { return first(impl.PierceOf(a)) }},
		{"EngelTerms", func(_, _ []int) []int { return first(impl.EngelTerms(a)) }},
	}
}

func TestGreedyResultsAreNew(t *testing.T) {
	for _, a := range []impl.Fraction{fraction(0, 1), fraction(1, 1), fraction(3, 7), fraction(4, 5), fraction(2, 3), fraction(5, 121), none} {
		for _, c := range greedyFractionCalls(a, 9) {
			checkMemory(t, c, nil, nil)
		}
	}
}

func TestGreedyNeverPanics(t *testing.T) {
	for _, num := range borderInts {
		for _, den := range borderInts {
			a := fraction(num, den)
			impl.GreedyStep(a)
			for _, n := range borderInts {
				for _, c := range greedyFractionCalls(a, n) {
					if list := c.run(nil, nil); list != nil && (!impl.IsFraction(a) || slices.Contains(list, canary)) {
						t.Error(c.name, a, n, list)
					}
				}
			}
		}
	}
	for _, k := range borderInts {
		impl.SylvesterTerm(k)
		impl.SylvesterGap(k)
	}
}

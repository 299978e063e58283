package tests

import (
	"math"
	"slices"
	"testing"

	"loop.example/g01107/impl"
)

// Guarantee 9 for chapter 4: no panic, whatever the arguments are, lists that are left as they were, and results that are new memory.

func TestPracticalListsAreKept(t *testing.T) {
	lists := append(shortLists(), []int{6, 4}, []int{12, 6, 4, 3, 2, 1}, []int{1, 3, 6}, []int{6, 0}, []int{math.MinInt, math.MaxInt, math.MinInt}, []int{math.MinInt, -1}, upTo(1<<16), make([]int, 1<<16))
	for _, n := range []int{math.MinInt, -1, 0, 1, 12, 2000, 2001, math.MaxInt} {
		for _, sum := range []int{math.MinInt, -1, 0, 1, 10, 28, 100000, 100001, math.MaxInt} {
			c := listCall{"AreDivisorsFor", func(a, _ []int) []int {
				if is, ok := impl.AreDivisorsFor(n, sum, a); is && !ok {
					t.Error("AreDivisorsFor", n, sum, a)
				}
				return nil
			}}
			for _, list := range lists {
				checkMemory(t, c, list, nil)
			}
		}
	}
}

// What stands behind the length of a list does not count.
func TestDivisorsBehindTheLengthDoNotCount(t *testing.T) {
	list := []int{6, 4, 2}
	if is, ok := impl.AreDivisorsFor(12, 10, list[:2]); !is || !ok {
		t.Error("AreDivisorsFor", is, ok)
	}
	if is, ok := impl.AreDivisorsFor(12, 12, list[:2]); is || !ok {
		t.Error("AreDivisorsFor", is, ok)
	}
}

// practicalCalls are all calls that return a list, for a number, a sum and a fraction.
func practicalCalls(n int, sum int, a impl.Fraction) []listCall {
	return []listCall{
		{"DivisorsOf", func(_, _ []int) []int { return first(impl.DivisorsOf(n)) }},
		{"PrimePowers", func(_, _ []int) []int { primes, _, _ := impl.PrimePowers(n); return primes }},
		{"PrimePowers", func(_, _ []int) []int { _, counts, _ := impl.PrimePowers(n); return counts }},
		{"DivisorsFor", func(_, _ []int) []int { return first(impl.DivisorsFor(n, sum)) }},
		{"PracticalsUpTo", func(_, _ []int) []int { return first(impl.PracticalsUpTo(n)) }},
		{"ExpandOver", func(_, _ []int) []int { return first(impl.ExpandOver(a, n)) }},
		{"PracticalExpansion", func(_, _ []int) []int { return first(impl.PracticalExpansion(a)) }},
	}
}

func TestPracticalResultsAreNew(t *testing.T) {
	for _, n := range []int{1, 2, 7, 12, 60, 1680, 1999, 2000, 0, 2001} {
		for _, a := range []impl.Fraction{fraction(0, 1), fraction(1, 1), fraction(5, 6), fraction(3, 2), fraction(1, 2000), none} {
			for _, sum := range []int{0, 1, 12, 100000, 100001} {
				for _, c := range practicalCalls(n, sum, a) {
					checkMemory(t, c, nil, nil)
				}
			}
		}
	}
	primes, counts, _ := impl.PrimePowers(60)
	for i := range primes[:cap(primes)] {
		primes[:cap(primes)][i] = canary
	}
	if !slices.Equal(counts, []int{2, 1, 1}) {
		t.Error("PrimePowers returns two lists in one memory", counts)
	}
}

func TestPracticalsNeverPanic(t *testing.T) {
	for _, n := range slices.Concat(borderInts, notNumbers, notSums) {
		impl.DivisorSum(n)
		impl.IsPractical(n)
		impl.BreakOf(n)
		impl.UnreachedOf(n)
		impl.NextPractical(n)
		impl.IsPrimitive(n)
		for _, other := range slices.Concat(borderInts, notNumbers, notSums) {
			a := fraction(n, other)
			for _, c := range practicalCalls(other, n, a) {
				if list := c.run(nil, nil); list != nil && !impl.IsFraction(a) && (c.name == "ExpandOver" || c.name == "PracticalExpansion") {
					t.Error(c.name, a, other, list)
				}
			}
			impl.CountSums(n, other)
			impl.AreDivisorsFor(n, other, []int{n, other})
			impl.LeastOver(a)
		}
	}
}

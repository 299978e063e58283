package tests

import (
	"math"
	"slices"
	"testing"

	"loop.example/g01107/impl"
)

// Guarantee 9 for chapter 3: no panic, whatever the arguments are, lists that are left as they were, and results that are new memory.

func methodListCalls() []listCall {
	return []listCall{
		{"MergeAll", func(a, _ []int) []int { return first(impl.MergeAll(a)) }},
		{"FromFactorial", func(a, _ []int) []int { impl.FromFactorial(a); return nil }},
	}
}

func TestMethodListsAreKept(t *testing.T) {
	lists := append(shortLists(), []int{2, 4, 20}, []int{5, 10, 12, 15, 20}, []int{math.MinInt, math.MaxInt, math.MinInt}, fullList(300), make([]int, 11), make([]int, 12), upTo(1<<16))
	for _, c := range methodListCalls() {
		for _, list := range lists {
			checkMemory(t, c, list, nil)
		}
	}
}

// methodFractionCalls are all calls that return a list for a fraction.
func methodFractionCalls(a impl.Fraction) []listCall {
	return []listCall{
		{"GolombExpansion", func(_, _ []int) []int { return first(impl.GolombExpansion(a)) }},
		{"BinaryExpansion", func(_, _ []int) []int { return first(impl.BinaryExpansion(a)) }},
		{"FactorialDigits", func(_, _ []int) []int { return first(impl.FactorialDigits(a)) }},
		{"FactorialExpansion", func(_, _ []int) []int { return first(impl.FactorialExpansion(a)) }},
		{"PairExpansion", func(_, _ []int) []int { return first(impl.PairExpansion(a)) }},
		{"SplitExpansion", func(_, _ []int) []int { return first(impl.SplitExpansion(a)) }},
		{"MethodSizes", func(_, _ []int) []int { return first(impl.MethodSizes(a)) }},
		{"BestMethod", func(_, _ []int) []int { return first(impl.BestMethod(a)) }},
	}
}

func TestMethodResultsAreNew(t *testing.T) {
	for _, a := range []impl.Fraction{fraction(1, 2), fraction(3, 7), fraction(4, 5), fraction(5, 32), fraction(3, 8), fraction(25, 26), fraction(2, 44721), fraction(0, 1), fraction(1, 1), none} {
		for _, c := range methodFractionCalls(a) {
			checkMemory(t, c, nil, nil)
		}
	}
	rests, _ := impl.GolombRests(fraction(3, 7))
	again, _ := impl.GolombRests(fraction(3, 7))
	rests[0] = none
	if again[0] != fraction(3, 7) {
		t.Error("GolombRests returns the same memory twice")
	}
}

func TestMethodsNeverPanic(t *testing.T) {
	for _, num := range borderInts {
		impl.LeastFactorial(num)
		for _, den := range borderInts {
			impl.InverseOf(num, den)
			a := fraction(num, den)
			for _, c := range methodFractionCalls(a) {
				if list := c.run(nil, nil); list != nil && (!impl.IsFraction(a) || slices.Contains(list, canary)) {
					t.Error(c.name, a, list)
				}
			}
			impl.GolombStep(a)
			impl.GolombRests(a)
			impl.BinaryParts(a)
		}
	}
}

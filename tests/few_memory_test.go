package tests

import (
	"math"
	"runtime"
	"slices"
	"sync"
	"testing"
	"time"

	"loop.example/g01107/impl"
)

// Guarantee 9 for chapter 5: no panic, whatever the arguments are, lists that are left as they were, results that are new memory, and nothing that goes on behind a call.

func TestFewListsAreKept(t *testing.T) {
	lists := append(shortLists(), []int{2, 4, 20}, []int{60}, []int{61}, []int{56, 57, 58, 59, 60}, []int{1, 2, 3, 4, 5, 6}, []int{math.MinInt, math.MaxInt}, upTo(1<<16), make([]int, 1<<16))
	c := listCall{"IsShortest", func(a, _ []int) []int {
		if is, ok := impl.IsShortest(a); is && !ok {
			t.Error("IsShortest", a)
		}
		return nil
	}}
	for _, list := range lists {
		checkMemory(t, c, list, nil)
	}
}

// What stands behind the length of a list does not count.
func TestTermsBehindTheLengthDoNotCount(t *testing.T) {
	list := []int{3, 6, 2}
	if is, ok := impl.IsShortest(list[:1]); !is || !ok {
		t.Error("IsShortest", is, ok)
	}
	if is, ok := impl.IsShortest(list[:2]); is || !ok {
		t.Error("IsShortest", is, ok)
	}
	if is, ok := impl.IsShortest(list); is || ok {
		t.Error("IsShortest", is, ok)
	}
}

// fewCalls are all calls that return one list, for a fraction and two numbers.
func fewCalls(a impl.Fraction, k int, most int) []listCall {
	return []listCall{
		{"FirstThree", func(_, _ []int) []int { return first(impl.FirstThree(a)) }},
		{"FourOver", func(_, _ []int) []int { return first(impl.FourOver(a.Den)) }},
		{"FirstFew", func(_, _ []int) []int { return first(impl.FirstFew(a, k, most)) }},
	}
}

// fewListCalls are all calls that return more lists.
func fewListCalls(a impl.Fraction, k int, most int) map[string]func() ([][]int, bool) {
	return map[string]func() ([][]int, bool){
		"TwoTerms":   func() ([][]int, bool) { return impl.TwoTerms(a) },
		"ThreeTerms": func() ([][]int, bool) { return impl.ThreeTerms(a) },
		"FewTerms":   func() ([][]int, bool) { return impl.FewTerms(a, k, most) },
	}
}

// checkApart writes over all of one result, the spare capacity too, list by list.
func checkApart(t *testing.T, name string, call func() ([][]int, bool)) {
	t.Helper()
	result, _ := call()
	again, _ := call()
	want := make([][]int, len(again))
	for i, list := range again {
		want[i] = slices.Clone(list)
	}
	for i, list := range result {
		for _, later := range result[i+1:] {
			if slices.Contains(later, canary) {
				t.Fatal(name, "returns two lists in one memory")
			}
		}
		for j := range list[:cap(list)] {
			list[:cap(list)][j] = canary
		}
	}
	if !slices.EqualFunc(again, want, slices.Equal) {
		t.Fatal(name, "returns the same memory twice", again, want)
	}
}

func TestFewResultsAreNew(t *testing.T) {
	for _, a := range []impl.Fraction{fraction(0, 1), fraction(1, 1), fraction(2, 1), fraction(1, 2), fraction(2, 3), fraction(1, 12), fraction(1, 60), fraction(1, 89), fraction(1, 120), fraction(1, 20000), none} {
		for _, k := range []int{0, 1, 2, 3, 4, 5, 6} {
			for _, most := range []int{0, 1, 30, 60, 61} {
				for _, c := range fewCalls(a, k, most) {
					checkMemory(t, c, nil, nil)
				}
			}
			for name, call := range fewListCalls(a, k, 60) {
				checkApart(t, name, call)
			}
		}
	}
}

func TestFewNeverPanics(t *testing.T) {
	for _, num := range borderInts {
		impl.FourOver(num)
		for _, den := range append([]int{20000, 20001, 120, 121}, borderInts...) {
			a := fraction(num, den)
			isOne := impl.IsFraction(a) && num > 0
			for _, n := range append([]int{60, 61}, borderInts...) {
				for name, call := range fewListCalls(a, n, 60) {
					if lists, ok := call(); ok && !isOne || !ok && lists != nil {
						t.Error(name, a, n, ok)
					}
				}
				impl.FewTerms(a, 5, n)
				impl.FirstFew(a, n, n)
				impl.CountFew(a, 3, n)
				impl.LeastGreatest(a, n)
				impl.FewestTerms(a, n)
				impl.IsTwoWitness(a, n)
			}
			impl.TwoWitness(a)
			impl.CountTwo(a)
			impl.FirstThree(a)
		}
	}
}

// Searches that end early, with more than MaxFound lists or with the first one, end no less than others.
func TestSearchesEndWithTheirCalls(t *testing.T) {
	before := runtime.NumGoroutine()
	for _, a := range []impl.Fraction{fraction(1, 120), fraction(1, 4), fraction(1, 2), fraction(1, 1), fraction(2, 1), fraction(8, 11), fraction(0, 1)} {
		for range 20 {
			for _, call := range fewListCalls(a, 3, 60) {
				call()
			}
			impl.TwoWitness(a)
			impl.CountTwo(a)
			impl.FirstThree(a)
			impl.FourOver(a.Den)
			impl.FirstFew(a, 3, 60)
			impl.CountFew(a, 3, 60)
			impl.LeastGreatest(a, 3)
			impl.FewestTerms(a, 60)
			impl.IsShortest([]int{2, 4, 20})
		}
	}
	// The last search may have closed its channel without being counted out yet.
	for wait := 0; wait < 100 && runtime.NumGoroutine() > before; wait++ {
		time.Sleep(10 * time.Millisecond)
	}
	if after := runtime.NumGoroutine(); after > before {
		t.Error("searches go on behind their calls:", after-before)
	}
}

// Calls at the same time do not meet.
func TestFewCallsAtTheSameTime(t *testing.T) {
	var group sync.WaitGroup
	for range 8 {
		group.Go(func() {
			for den := 1; den <= 12; den++ {
				a := fraction(1, den)
				two, ok := impl.TwoTerms(a)
				checkLists(t, "TwoTerms", a, two, ok, wantTwo(1, den, 0), true)
				three, ok := impl.ThreeTerms(a)
				checkLists(t, "ThreeTerms", a, three, ok, wantThree(a), true)
				list, ok := impl.FewTerms(a, 4, 60)
				checkLists(t, "FewTerms", a, list, ok, few().of(a, 4, 60), true)
			}
		})
	}
	group.Wait()
}

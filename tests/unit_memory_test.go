package tests

import (
	"math"
	"slices"
	"strings"
	"testing"

	"loop.example/g01107/impl"
)

// Guarantee 9 for chapter 1: no panic, whatever the arguments are, and lists that are left as they were.

const canary = -77

// held gives out a list with spare capacity behind it, and notices a change of the list and of what is behind it.
type held struct {
	array, before []int
	length        int
}

func hold(list []int) *held {
	array := slices.Concat(list, []int{canary, 1, 2, 3, 4, 5, 6, canary})
	return &held{array: array, before: slices.Clone(array), length: len(list)}
}

func (h *held) list() []int {
	return h.array[:h.length]
}

func (h *held) isUnchanged() bool {
	return slices.Equal(h.array, h.before)
}

// listCall is a call of a function with up to two lists, of which it gives back at most one list.
type listCall struct {
	name string
	run  func(a, b []int) []int
}

// first leaves out what else a call returns, to be used where only the memory of the list matters.
func first(list []int, _ bool) []int {
	return list
}

func unitListCalls() []listCall {
	calls := []listCall{
		{"IsExpansion", func(a, b []int) []int { impl.IsExpansion(a); return nil }},
		{"SumOf", func(a, b []int) []int { impl.SumOf(a); return nil }},
		{"CommonMultiple", func(a, b []int) []int { impl.CommonMultiple(a); return nil }},
		{"UniteExpansions", func(a, b []int) []int { return first(impl.UniteExpansions(a, b)) }},
		{"IsPartOf", func(a, b []int) []int { impl.IsPartOf(a, b); return nil }},
		{"RestOf", func(a, b []int) []int { impl.RestOf(fraction(7, 3), a); return nil }},
		{"ExpansionText", func(a, b []int) []int { impl.ExpansionText(a); return nil }},
	}
	for _, i := range []int{math.MinInt, -1, 0, 1, 2, 5, 23, 24, math.MaxInt} {
		calls = append(calls, listCall{"SplitTerm", func(a, b []int) []int { return first(impl.SplitTerm(a, i)) }})
		for _, j := range []int{math.MinInt, -1, 0, 1, 2, 3, 24, 1000, 1001, math.MaxInt} {
			calls = append(calls,
				listCall{"MergePair", func(a, b []int) []int { return first(impl.MergePair(a, i, j)) }},
				listCall{"SplitBy", func(a, b []int) []int { return first(impl.SplitBy(a, i, j, 3)) }},
				listCall{"SplitBy", func(a, b []int) []int { return first(impl.SplitBy(a, i, 1, j)) }})
		}
	}
	for _, by := range []int{math.MinInt, -1, 0, 1, 3, billion, billion + 1, math.MaxInt} {
		calls = append(calls, listCall{"ScaleExpansion", func(a, b []int) []int { return first(impl.ScaleExpansion(a, by)) }})
	}
	return calls
}

func checkMemory(t *testing.T, c listCall, a, b []int) {
	t.Helper()
	x, y := hold(a), hold(b)
	result := c.run(x.list(), y.list())
	again := c.run(x.list(), y.list())
	if !x.isUnchanged() || !y.isUnchanged() {
		t.Fatal(c.name, a, b, "changes its arguments")
	}
	if !slices.Equal(result, again) {
		t.Fatal(c.name, a, b, "depends on more than its arguments", result, again)
	}
	want := slices.Clone(again)
	for i := range result[:cap(result)] {
		result[:cap(result)][i] = canary
	}
	if !x.isUnchanged() || !y.isUnchanged() {
		t.Fatal(c.name, a, b, "returns memory of an argument")
	}
	if !slices.Equal(again, want) {
		t.Fatal(c.name, a, b, "returns the same memory twice")
	}
}

func TestUnitListsAreKept(t *testing.T) {
	lists := [][]int{
		nil, {}, {1}, {2}, {6}, {2, 3}, {3, 6}, {4, 12}, {2, 3, 6}, {2, 4, 20}, {3, 4, 6, 20}, {billion}, fullList(23), fullList(24),
		fullList(25), fullList(300), {0}, {-1, 5}, {3, 2}, {2, 2}, {math.MinInt, math.MaxInt}, {math.MaxInt}, {billion + 1}, {1001, 999001},
	}
	for _, c := range unitListCalls() {
		for _, a := range lists {
			checkMemory(t, c, a, []int{2, 5, 30})
			checkMemory(t, c, a, nil)
			checkMemory(t, c, []int{2, 5, 30}, a)
		}
	}
}

// One list may be both arguments.
func TestUnitListGivenTwice(t *testing.T) {
	x := hold([]int{2, 3, 6})
	united, ok := impl.UniteExpansions(x.list(), x.list())
	if !ok || !slices.Equal(united, []int{2, 3, 6}) || !x.isUnchanged() {
		t.Error("UniteExpansions", united, ok)
	}
	united[0] = canary
	if !x.isUnchanged() {
		t.Error("UniteExpansions returns its argument")
	}
}

func TestUnitFractionsNeverPanic(t *testing.T) {
	for _, num := range borderInts {
		for _, den := range borderInts {
			a := fraction(num, den)
			impl.IsFraction(a)
			impl.MakeFraction(num, den)
			impl.FloorOf(a)
			impl.CeilingOf(a)
			impl.FractionText(a)
			impl.RestOf(a, []int{2, 3})
			for _, b := range []impl.Fraction{a, fraction(den, num), fraction(1, 2), fraction(0, 1), none} {
				impl.CompareFractions(a, b)
				for _, call := range []func(a, b impl.Fraction) (impl.Fraction, bool){
					impl.AddFractions, impl.SubtractFractions, impl.MultiplyFractions, impl.DivideFractions,
				} {
					call(a, b)
					call(b, a)
				}
			}
		}
	}
}

func TestUnitTextsNeverPanic(t *testing.T) {
	texts := []string{"", "\x00", "\xff\xfe", "+", "/", "1/0", "0/0", "-1/-1", "½", strings.Repeat("1", 1<<20), strings.Repeat("/", 1<<20), strings.Repeat("1+", 1<<20)}
	for b := range 256 {
		texts = append(texts, string([]byte{byte(b)}), string([]byte{'2', byte(b), '3'}))
	}
	for _, s := range texts {
		a, ok := impl.ParseFraction(s)
		if text, _ := impl.FractionText(a); ok && text != s || !ok && a != none {
			t.Errorf("ParseFraction %.20q %v %v", s, a, ok)
		}
		list, ok := impl.ParseExpansion(s)
		if text, isOne := impl.ExpansionText(list); ok && (text != s || !isOne) || !ok && list != nil {
			t.Errorf("ParseExpansion %.20q %v %v", s, list, ok)
		}
	}
}

package tests

import (
	"math"
	"slices"
	"testing"

	"loop.example/g01107/impl"
)

// Guarantee 2 by examples: greedy steps, Engel and Pierce lists at the ordinary places and at the limits.

// twos has n numbers 2, whose Engel list stands for 1 - 1 / 2^n.
func twos(n int) []int {
	return slices.Repeat([]int{2}, n)
}

// upTo has the numbers 1..n.
func upTo(n int) []int {
	list := []int{}
	for d := 1; d <= n; d++ {
		list = append(list, d)
	}
	return list
}

// fractionRow says what a call with a fraction returns; a nil list means that it fails.
type fractionRow struct {
	a    impl.Fraction
	want []int
}

func checkRows(t *testing.T, name string, call func(a impl.Fraction) ([]int, bool), rows []fractionRow) {
	t.Helper()
	for _, row := range rows {
		got, ok := call(row.a)
		checkList(t, name, row.a, got, ok, row.want, row.want != nil)
	}
	for _, bad := range notFractions {
		got, ok := call(bad)
		checkList(t, name, bad, got, ok, nil, false)
	}
}

func TestGreedyStep(t *testing.T) {
	for _, c := range []struct {
		a    impl.Fraction
		d    int
		left impl.Fraction
		ok   bool
	}{
		{fraction(4, 5), 2, fraction(3, 10), true},
		{fraction(3, 10), 4, fraction(1, 20), true},
		{fraction(1, 20), 20, fraction(0, 1), true},
		{fraction(2, 3), 2, fraction(1, 6), true},
		{fraction(999999, 1000000), 2, fraction(499999, 1000000), true},
		{fraction(1, 1), 1, fraction(0, 1), true},
		{fraction(3, 2), 1, fraction(1, 2), true},
		{fraction(7, 1), 1, fraction(6, 1), true},
		{fraction(billion, 1), 1, fraction(billion-1, 1), true},
		{fraction(billion, billion-1), 1, fraction(1, billion-1), true},
		{fraction(1, billion), billion, fraction(0, 1), true},
		// What is left has a Den of 10^9 and of 10^9 + 1.
		{fraction(32001, billion), 31250, fraction(1, billion), true},
		{fraction(4780, 90909091), 0, none, false},
		{fraction(2, 999999937), 0, none, false},
		{fraction(0, 1), 0, none, false},
	} {
		if d, left, ok := impl.GreedyStep(c.a); d != c.d || left != c.left || ok != c.ok {
			t.Error("GreedyStep", c.a, d, left, ok)
		}
	}
	for _, bad := range notFractions {
		if d, left, ok := impl.GreedyStep(bad); d != 0 || left != none || ok {
			t.Error("GreedyStep", bad, d, left, ok)
		}
	}
}

func TestGreedyExpansion(t *testing.T) {
	checkRows(t, "GreedyExpansion", impl.GreedyExpansion, []fractionRow{
		{fraction(4, 5), []int{2, 4, 20}},
		{fraction(8, 11), []int{2, 5, 37, 4070}},
		{fraction(3263441, 3263442), []int{2, 3, 7, 43, 1807}},
		{fraction(0, 1), []int{}},
		{fraction(1, 1), []int{1}},
		{fraction(1, 2), []int{2}},
		{fraction(1, billion), []int{billion}},
		{fraction(32001, billion), []int{31250, billion}},
		{fraction(4780, 90909091), nil},
		{fraction(2, 999999937), nil},
		// The fraction left behind 25, 757 and 763309 is too small.
		{fraction(5, 121), nil},
		{fraction(billion, billion-1), nil},
		{fraction(3, 2), nil},
		{fraction(2, 1), nil},
		{fraction(billion, 1), nil},
	})
}

func TestGreedyFrom(t *testing.T) {
	for _, c := range []struct {
		a     impl.Fraction
		least int
		want  []int
	}{
		{fraction(1, 2), 1, []int{2}},
		{fraction(1, 2), 2, []int{2}},
		{fraction(1, 2), 3, []int{3, 6}},
		{fraction(1, 2), 5, []int{5, 6, 8, 120}},
		{fraction(1, 1), 1, []int{1}},
		{fraction(1, 1), 2, []int{2, 3, 6}},
		{fraction(1, 1), 3, []int{3, 4, 5, 6, 20}},
		{fraction(3, 2), 1, []int{1, 2}},
		{fraction(2, 1), 1, []int{1, 2, 3, 6}},
		{fraction(2, 1), 2, []int{2, 3, 4, 5, 6, 7, 8, 9, 10, 15, 230, 57960}},
		{fraction(7, 3), 1, []int{1, 2, 3, 4, 5, 20}},
		{fraction(0, 1), 1, []int{}},
		{fraction(0, 1), billion, []int{}},
		{fraction(1, billion), 1, []int{billion}},
		{fraction(1, billion), billion, []int{billion}},
		// Behind 10^9 there is no number left for the other half.
		{fraction(1, billion/2), billion / 2, []int{billion / 2}},
		{fraction(1, billion/2), billion, nil},
		{fraction(4780, 90909091), 1, nil},
		{fraction(5, 121), 1, nil},
		{fraction(5, 121), 33, []int{33, 91, 33033}},
		// There are just MaxTerms terms.
		{fraction(3270251, 874874), 1, append(upTo(23), 272)},
		// All that is left are fractions, but the sum of the first 24 of 25 terms is none.
		{fraction(39680449, 10498488), 1, nil},
		// 31625, 31626 and 63252 leave fractions, but the sum of the first two is none.
		{fraction(52709, 666781500), 31625, nil},
		{fraction(billion, 1), 1, nil},
		{fraction(0, 1), 0, nil},
		{fraction(0, 1), billion + 1, nil},
		{fraction(1, 2), 0, nil},
		{fraction(1, 2), -1, nil},
		{fraction(1, 2), billion + 1, nil},
		{fraction(1, 2), math.MaxInt, nil},
		{fraction(1, 2), math.MinInt, nil},
	} {
		got, ok := impl.GreedyFrom(c.a, c.least)
		checkList(t, "GreedyFrom", []any{c.a, c.least}, got, ok, c.want, c.want != nil)
	}
	for _, bad := range notFractions {
		got, ok := impl.GreedyFrom(bad, 2)
		checkList(t, "GreedyFrom", bad, got, ok, nil, false)
	}
}

func TestNumeratorsOf(t *testing.T) {
	checkRows(t, "NumeratorsOf", impl.NumeratorsOf, []fractionRow{
		{fraction(4, 5), []int{4, 3, 1, 0}},
		{fraction(8, 11), []int{8, 5, 3, 1, 0}},
		{fraction(6, 7), []int{6, 5, 1, 0}},
		{fraction(0, 1), []int{0}},
		{fraction(1, 2), []int{1, 0}},
		{fraction(1, billion), []int{1, 0}},
		{fraction(32001, billion), []int{32001, 1, 0}},
		{fraction(4780, 90909091), nil},
		{fraction(5, 121), nil},
		{fraction(1, 1), nil},
		{fraction(billion, billion-1), nil},
		{fraction(3, 2), nil},
		{fraction(7, 1), nil},
	})
}

func TestIsGreedy(t *testing.T) {
	for _, c := range []struct {
		list   []int
		is, ok bool
	}{
		{nil, true, true},
		{[]int{}, true, true},
		{[]int{1}, true, true},
		{[]int{7}, true, true},
		{[]int{billion}, true, true},
		{[]int{2, 4, 20}, true, true},
		{[]int{31250, billion}, true, true},
		{[]int{3, 4, 6, 20}, false, true},
		{[]int{3, 6}, false, true},
		{[]int{2, 3, 6}, false, true},
		{[]int{2, 3}, true, true},
		{fullList(23), false, true},
		// The sum is 5 / 121, which has no greedy expansion.
		{[]int{33, 121, 363}, false, false},
		// The sums are 3 / 2 and 2.
		{[]int{1, 2}, false, false},
		{[]int{1, 2, 3, 6}, false, false},
		{[]int{2, 3, 4}, false, false},
	} {
		if is, ok := impl.IsGreedy(c.list); is != c.is || ok != c.ok {
			t.Error("IsGreedy", c.list, is, ok)
		}
	}
	for _, bad := range notExpansions {
		if is, ok := impl.IsGreedy(bad); is || ok {
			t.Error("IsGreedy", bad, is, ok)
		}
	}
}

func TestSylvester(t *testing.T) {
	terms := []int{2, 3, 7, 43, 1807, 3263443}
	gaps := []int{1, 2, 6, 42, 1806, 3263442}
	for k := range terms {
		if d, ok := impl.SylvesterTerm(k); d != terms[k] || !ok {
			t.Error("SylvesterTerm", k, d, ok)
		}
		if gap, ok := impl.SylvesterGap(k); gap != fraction(1, gaps[k]) || !ok {
			t.Error("SylvesterGap", k, gap, ok)
		}
		if left, ok := impl.RestOf(fraction(1, 1), terms[:k]); left != fraction(1, gaps[k]) || !ok {
			t.Error("the test's own gap", k, left, ok)
		}
	}
	for _, k := range []int{math.MinInt, -5, -1, 6, 7, 64, math.MaxInt} {
		if d, ok := impl.SylvesterTerm(k); d != 0 || ok {
			t.Error("SylvesterTerm", k, d, ok)
		}
		if gap, ok := impl.SylvesterGap(k); gap != none || ok {
			t.Error("SylvesterGap", k, gap, ok)
		}
	}
}

func TestOddGreedy(t *testing.T) {
	for _, c := range []struct {
		a    impl.Fraction
		most int
		want []int
	}{
		{fraction(2, 7), 24, []int{5, 13, 115, 10465}},
		{fraction(2, 5), 24, []int{3, 15}},
		// The least number alone would be 3 a second time, and behind it 4 and 9.
		{fraction(2, 3), 24, []int{3, 5, 9, 45}},
		{fraction(2, 3), 4, []int{3, 5, 9, 45}},
		{fraction(2, 3), 3, nil},
		{fraction(2, 3), 1, nil},
		{fraction(2, 3), 0, nil},
		{fraction(29, 31), 9, []int{3, 5, 7, 9, 11, 19, 217, 30015, 453756765}},
		{fraction(29, 31), 8, nil},
		{fraction(1, 3), 1, []int{3}},
		{fraction(1, 3), 0, nil},
		{fraction(0, 1), 0, []int{}},
		{fraction(0, 1), 24, []int{}},
		{fraction(1, billion-1), 24, []int{billion - 1}},
		{fraction(333668, billion-1), 24, []int{2997, billion - 1}},
		// What is left behind 19019 is 1 / (10^9 + 1).
		{fraction(4780, 90909091), 24, nil},
		{fraction(14, 15), 24, nil},
		// 3, 5, 7, 17, 171, 34809 and 807742845 leave fractions, but not all sums on the way are fractions.
		{fraction(183, 247), 24, nil},
		{fraction(1, 2), 24, nil},
		{fraction(3, 4), 24, nil},
		{fraction(1, billion), 24, nil},
		{fraction(1, 1), 24, nil},
		{fraction(5, 3), 24, nil},
		{fraction(7, 1), 24, nil},
		{fraction(2, 3), -1, nil},
		{fraction(2, 3), 25, nil},
		{fraction(0, 1), -1, nil},
		{fraction(0, 1), 25, nil},
		{fraction(2, 3), math.MaxInt, nil},
		{fraction(2, 3), math.MinInt, nil},
	} {
		got, ok := impl.OddGreedy(c.a, c.most)
		checkList(t, "OddGreedy", []any{c.a, c.most}, got, ok, c.want, c.want != nil)
	}
	for _, bad := range append([]impl.Fraction{fraction(3, 9), fraction(1, -3)}, notFractions...) {
		got, ok := impl.OddGreedy(bad, 24)
		checkList(t, "OddGreedy", bad, got, ok, nil, false)
	}
}

func TestEngelOfAndEngelTerms(t *testing.T) {
	powers := []int{}
	for n := 1; n <= 24; n++ {
		powers = append(powers, 1<<n)
	}
	rows := []struct {
		a           impl.Fraction
		list, terms []int
	}{
		{fraction(3, 7), []int{3, 4, 7}, []int{3, 12, 84}},
		{fraction(8, 11), []int{2, 3, 3, 11}, []int{2, 6, 18, 198}},
		{fraction(3, 4), []int{2, 2}, []int{2, 4}},
		{fraction(0, 1), []int{}, []int{}},
		{fraction(1, 2), []int{2}, []int{2}},
		{fraction(1, billion), []int{billion}, []int{billion}},
		{fraction(500000001, billion), []int{2, billion / 2}, []int{2, billion}},
		{fraction(32001, billion), []int{31250, 32000}, []int{31250, billion}},
		{fraction(16777215, 16777216), twos(24), powers},
		// A number more than MaxTerms.
		{fraction(33554431, 33554432), nil, nil},
		// The lists 19019, 52579 and 7, 11, 12987013 have the product 10^9 + 1.
		{fraction(4780, 90909091), nil, nil},
		{fraction(22263451, 142857143), nil, nil},
		{fraction(billion-1, billion), nil, nil},
		{fraction(1, 1), nil, nil},
		{fraction(3, 2), nil, nil},
		{fraction(7, 1), nil, nil},
		{fraction(billion, billion-1), nil, nil},
	}
	lists, terms := []fractionRow{}, []fractionRow{}
	for _, row := range rows {
		lists = append(lists, fractionRow{row.a, row.list})
		terms = append(terms, fractionRow{row.a, row.terms})
	}
	checkRows(t, "EngelOf", impl.EngelOf, lists)
	checkRows(t, "EngelTerms", impl.EngelTerms, terms)
}

func TestPierceOf(t *testing.T) {
	checkRows(t, "PierceOf", impl.PierceOf, []fractionRow{
		{fraction(3, 7), []int{2, 7}},
		{fraction(8, 11), []int{1, 3, 5, 11}},
		{fraction(5, 8), []int{1, 2, 4}},
		{fraction(2, 3), []int{1, 3}},
		{fraction(0, 1), []int{}},
		{fraction(1, 1), []int{1}},
		// 1, 2 would stand for it, too.
		{fraction(1, 2), []int{2}},
		{fraction(1, billion), []int{billion}},
		{fraction(billion-1, billion), []int{1, billion}},
		{fraction(500000001, billion), []int{1, 2, billion / 2}},
		{fraction(999999936, 999999937), []int{1, 999999937}},
		// The lists 1729, 578369 and 7, 143, 999001 have the product 10^9 + 1.
		{fraction(82624, 142857143), nil},
		{fraction(20265449, 142857143), nil},
		// The steps would go on for 36 numbers.
		{fraction(499015638, 999999989), nil},
		{fraction(2, 999999937), nil},
		{fraction(billion, billion-1), nil},
		{fraction(3, 2), nil},
		{fraction(2, 1), nil},
	})
}

// readRow says which fraction a list stands for; none means that it is no such list.
type readRow struct {
	list []int
	want impl.Fraction
}

func checkReads(t *testing.T, kind string, from func(list []int) (impl.Fraction, bool), is func(list []int) (bool, bool), rows []readRow) {
	t.Helper()
	for _, row := range rows {
		isOne := row.want != none
		if got, ok := from(row.list); got != row.want || ok != isOne {
			t.Error("From"+kind, row.list, got, ok)
		}
		if got, ok := is(row.list); got != isOne || !ok {
			t.Error("Is"+kind, row.list, got, ok)
		}
	}
}

func TestFromEngelAndIsEngel(t *testing.T) {
	checkReads(t, "Engel", impl.FromEngel, impl.IsEngel, []readRow{
		{nil, fraction(0, 1)},
		{[]int{}, fraction(0, 1)},
		{[]int{2}, fraction(1, 2)},
		{[]int{3, 4, 7}, fraction(3, 7)},
		{[]int{2, 2}, fraction(3, 4)},
		{[]int{2, 3}, fraction(2, 3)},
		{[]int{billion}, fraction(1, billion)},
		{[]int{2, billion / 2}, fraction(500000001, billion)},
		{[]int{31250, 32000}, fraction(32001, billion)},
		{twos(24), fraction(16777215, 16777216)},
		{[]int{1}, none},
		{[]int{0}, none},
		{[]int{-2}, none},
		{[]int{-3, -2}, none},
		{[]int{1, 2}, none},
		{[]int{3, 2}, none},
		{[]int{3, 4, 3}, none},
		{[]int{2, 1}, none},
		{[]int{2, 0}, none},
		{[]int{billion + 1}, none},
		{[]int{2, billion/2 + 1}, none},
		{[]int{19019, 52579}, none},
		{[]int{billion, billion}, none},
		{[]int{billion, billion, billion}, none},
		{[]int{2, math.MaxInt}, none},
		{[]int{math.MinInt}, none},
		{[]int{math.MinInt, math.MaxInt}, none},
		{twos(25), none},
		{twos(64), none},
		{twos(65), none},
	})
}

func TestFromPierceAndIsPierce(t *testing.T) {
	checkReads(t, "Pierce", impl.FromPierce, impl.IsPierce, []readRow{
		{nil, fraction(0, 1)},
		{[]int{}, fraction(0, 1)},
		{[]int{1}, fraction(1, 1)},
		{[]int{2}, fraction(1, 2)},
		{[]int{2, 7}, fraction(3, 7)},
		{[]int{1, 3}, fraction(2, 3)},
		{[]int{1, 2, 4}, fraction(5, 8)},
		{[]int{2, 3, 5}, fraction(11, 30)},
		{[]int{billion}, fraction(1, billion)},
		{[]int{1, billion}, fraction(billion-1, billion)},
		{[]int{1, 2, billion / 2}, fraction(500000001, billion)},
		{append(upTo(11), 13), fraction(109339663, 172972800)},
		{append(upTo(12), 14), none},
		// The last number is 1 more than the one before.
		{[]int{1, 2}, none},
		{[]int{6, 7}, none},
		{[]int{1, 2, 3}, none},
		{[]int{2, 7, 8}, none},
		{upTo(11), none},
		{[]int{billion - 1, billion}, none},
		{[]int{0}, none},
		{[]int{-1}, none},
		{[]int{-1, 2}, none},
		{[]int{0, 2}, none},
		{[]int{2, 2}, none},
		{[]int{1, 1}, none},
		{[]int{7, 2}, none},
		{[]int{1, 4, 4}, none},
		{[]int{billion + 1}, none},
		{[]int{1, billion + 1}, none},
		{[]int{2, billion/2 + 1}, none},
		{[]int{1729, 578369}, none},
		{[]int{7, 143, 999001}, none},
		{[]int{billion - 2, billion}, none},
		{[]int{2, math.MaxInt}, none},
		{[]int{math.MaxInt}, none},
		{[]int{math.MinInt}, none},
		{[]int{math.MaxInt, math.MinInt}, none},
		{append(upTo(23), 25), none},
		{append(upTo(24), 26), none},
	})
}

func TestGrowthHolds(t *testing.T) {
	for _, c := range []struct {
		list []int
		want bool
	}{
		{nil, true},
		{[]int{}, true},
		{[]int{1}, true},
		{[]int{billion}, true},
		{[]int{1, 2}, true},
		{[]int{2, 3}, true},
		{[]int{2, 4, 20}, true},
		{[]int{2, 3, 7}, true},
		{[]int{2, 3, 7, 43, 1807}, true},
		{[]int{1, 2, 3, 6}, false},
		{[]int{2, 3, 6}, false},
		{[]int{3, 6}, false},
		{[]int{3, 7}, true},
		{[]int{3, 6, 1000}, false},
		{[]int{4, 12}, false},
		{[]int{4, 13}, true},
		{[]int{31250, billion}, true},
		// d (d - 1) is less than 10^9 and a little greater.
		{[]int{31623, 31623 * 31622}, false},
		{[]int{31624, 63248}, false},
		{[]int{billion / 2, billion}, false},
		{fullList(24), false},
	} {
		if got, ok := impl.GrowthHolds(c.list); got != c.want || !ok {
			t.Error("GrowthHolds", c.list, got, ok)
		}
	}
	for _, bad := range notExpansions {
		if got, ok := impl.GrowthHolds(bad); got || ok {
			t.Error("GrowthHolds", bad, got, ok)
		}
	}
}

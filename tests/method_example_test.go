package tests

import (
	"math"
	"slices"
	"testing"

	"loop.example/g01107/impl"
)

// Guarantee 3 by examples: every method of chapter 3 at the ordinary places and at the limits.

// notProper are the fractions that no method takes.
var notProper = []impl.Fraction{
	fraction(0, 1), fraction(1, 1), fraction(3, 2), fraction(2, 1), fraction(7, 1), fraction(24, 23), fraction(billion, billion-1), fraction(billion, 1),
}

func checkMethod(t *testing.T, name string, call func(a impl.Fraction) ([]int, bool), rows []fractionRow) {
	t.Helper()
	checkRows(t, name, call, rows)
	for _, bad := range notProper {
		got, ok := call(bad)
		checkList(t, name, bad, got, ok, nil, false)
	}
}

func TestInverseOf(t *testing.T) {
	for _, c := range []struct{ p, q, want int }{
		{3, 7, 5},
		{2, 5, 3},
		{1, 2, 1},
		{1, 7, 1},
		{6, 7, 6},
		{5, 2, 1},
		{8, 7, 1},
		{10, 7, 5},
		{1, billion, 1},
		{billion, billion - 1, 1},
		{billion - 1, billion, billion - 1},
		{999999937, billion, 873015873},
		{billion, 999999937, 126984119},
		// They have a common divisor.
		{2, 4, 0},
		{6, 9, 0},
		{7, 7, 0},
		{14, 7, 0},
		{billion, billion, 0},
		{billion, 2, 0},
		{2, billion, 0},
		// One of both is out of range.
		{1, 1, 0},
		{5, 1, 0},
		{1, 0, 0},
		{3, -7, 0},
		{0, 7, 0},
		{-3, 7, 0},
		{-4, 7, 0},
		{0, 0, 0},
		{billion + 1, 2, 0},
		{billion + 1, billion, 0},
		{1, billion + 1, 0},
		{2, billion + 1, 0},
		{math.MaxInt, 2, 0},
		{3, math.MaxInt, 0},
		{math.MinInt, 7, 0},
		{7, math.MinInt, 0},
	} {
		if got, ok := impl.InverseOf(c.p, c.q); got != c.want || ok != (c.want != 0) {
			t.Error("InverseOf", c.p, c.q, got, ok)
		}
	}
}

func TestGolombStep(t *testing.T) {
	for _, c := range []struct {
		a    impl.Fraction
		d    int
		left impl.Fraction
	}{
		{fraction(3, 7), 35, fraction(2, 5)},
		{fraction(2, 5), 15, fraction(1, 3)},
		{fraction(1, 3), 3, fraction(0, 1)},
		{fraction(1, 2), 2, fraction(0, 1)},
		{fraction(4, 5), 20, fraction(3, 4)},
		{fraction(1, billion), billion, fraction(0, 1)},
		{fraction(1537323, 1953125), billion, fraction(403, 512)},
		// The number is greater than MaxPart by one, and by far.
		{fraction(7362, 52579), billion + 1, fraction(2663, 19019)},
		{fraction(2, 999999937), 999999937 * 499999969, fraction(1, 499999969)},
		{fraction(billion-1, billion), billion * (billion - 1), fraction(billion-2, billion-1)},
	} {
		if d, left, ok := impl.GolombStep(c.a); d != c.d || left != c.left || !ok {
			t.Error("GolombStep", c.a, d, left, ok)
		}
	}
	for _, bad := range slices.Concat(notProper, notFractions) {
		if d, left, ok := impl.GolombStep(bad); d != 0 || left != none || ok {
			t.Error("GolombStep", bad, d, left, ok)
		}
	}
}

func TestGolombExpansion(t *testing.T) {
	checkMethod(t, "GolombExpansion", impl.GolombExpansion, []fractionRow{
		{fraction(3, 7), []int{3, 15, 35}},
		{fraction(5, 31), []int{7, 91, 247, 475, 775}},
		{fraction(4, 11), []int{3, 33}},
		{fraction(1, 2), []int{2}},
		{fraction(1, 3), []int{3}},
		{fraction(1, billion), []int{billion}},
		// The greatest term is 10^9, and 10^9 + 1.
		{fraction(1537323, 1953125), []int{2, 6, 12, 36, 126, 854, 6588, 16740, 79360, billion}},
		{fraction(7362, 52579), nil},
		{fraction(2, 999999937), nil},
		// There are MaxTerms terms, and one more.
		{fraction(24, 25), fullList(24)},
		{fraction(25, 26), nil},
		{fraction(billion-1, billion), nil},
	})
}

func TestGolombRests(t *testing.T) {
	falling := func(n int) []impl.Fraction {
		rests := []impl.Fraction{}
		for ; n >= 0; n-- {
			rests = append(rests, fraction(n, n+1))
		}
		return rests
	}
	for _, c := range []struct {
		a    impl.Fraction
		want []impl.Fraction
	}{
		{fraction(3, 7), []impl.Fraction{fraction(3, 7), fraction(2, 5), fraction(1, 3), fraction(0, 1)}},
		{fraction(1, 2), []impl.Fraction{fraction(1, 2), fraction(0, 1)}},
		{fraction(1, billion), []impl.Fraction{fraction(1, billion), fraction(0, 1)}},
		// The terms are too great, but not what is left.
		{fraction(2, 999999937), []impl.Fraction{fraction(2, 999999937), fraction(1, 499999969), fraction(0, 1)}},
		// There are more steps than an expansion may have terms.
		{fraction(24, 25), falling(24)},
		{fraction(25, 26), falling(25)},
		// There are MaxRounds steps, and one more.
		{fraction(299, 300), falling(299)},
		{fraction(300, 301), falling(300)},
		{fraction(301, 302), nil},
		{fraction(billion-1, billion), nil},
	} {
		if got, ok := impl.GolombRests(c.a); !slices.Equal(got, c.want) || ok != (c.want != nil) {
			t.Error("GolombRests", c.a, got, ok)
		}
	}
	for _, bad := range slices.Concat(notProper, notFractions) {
		if got, ok := impl.GolombRests(bad); len(got) != 0 || ok {
			t.Error("GolombRests", bad, got, ok)
		}
	}
}

func TestBinaryParts(t *testing.T) {
	for _, c := range []struct {
		a           impl.Fraction
		power, s, r int
	}{
		{fraction(3, 7), 8, 3, 3},
		{fraction(2, 3), 4, 2, 2},
		{fraction(1, 3), 4, 1, 1},
		// A power of 2 as Den leaves nothing.
		{fraction(1, 2), 2, 1, 0},
		{fraction(3, 4), 4, 3, 0},
		{fraction(5, 8), 8, 5, 0},
		{fraction(1, 1<<29), 1 << 29, 1, 0},
		{fraction(1<<29-1, 1<<29), 1 << 29, 1<<29 - 1, 0},
		{fraction(4, 9), 16, 7, 1},
		// The power is greater than MaxPart.
		{fraction(1, 1<<29+1), 1 << 30, 1, 1<<29 - 1},
		{fraction(1, billion), 1 << 30, 1, 1<<30 - billion},
		{fraction(billion-1, billion), 1 << 30, 1<<30 - 2, 926258176},
	} {
		if power, s, r, ok := impl.BinaryParts(c.a); power != c.power || s != c.s || r != c.r || !ok {
			t.Error("BinaryParts", c.a, power, s, r, ok)
		}
	}
	for _, bad := range slices.Concat(notProper, notFractions) {
		if power, s, r, ok := impl.BinaryParts(bad); power != 0 || s != 0 || r != 0 || ok {
			t.Error("BinaryParts", bad, power, s, r, ok)
		}
	}
}

func TestBinaryExpansion(t *testing.T) {
	checkMethod(t, "BinaryExpansion", impl.BinaryExpansion, []fractionRow{
		{fraction(3, 7), []int{4, 8, 28, 56}},
		{fraction(4, 11), []int{4, 16, 22, 176}},
		{fraction(5, 31), []int{8, 32, 248, 992}},
		{fraction(1, 3), []int{4, 12}},
		{fraction(2, 3), []int{2, 6}},
		{fraction(1, 2), []int{2}},
		{fraction(7, 8), []int{2, 4, 8}},
		{fraction(5, 32), []int{8, 32}},
		{fraction(1, 1<<29), []int{1 << 29}},
		// The greatest term is 10^9.
		{fraction(19074, 1953125), []int{128, 512, 3906250, billion / 4, billion / 2, billion}},
		// The greatest term is Den N: the last Den for which that is allowed, and the next odd one.
		{fraction(1, 30517), []int{32768, 488272, 7812352, 15624704, 124997632, 499990528, 999981056}},
		{fraction(1, 30519), nil},
		// The power itself is too great a term.
		{fraction(1, billion), nil},
		{fraction(billion-1, billion), nil},
		{fraction(6481, 8647), nil},
		{fraction(4, 44723), nil},
	})
	// There are MaxTerms terms; the fraction 6481 / 8647 above has one more.
	list, ok := impl.BinaryExpansion(fraction(6271, 7167))
	if sum, isOne := impl.SumOf(list); !ok || len(list) != 24 || sum != fraction(6271, 7167) || !isOne {
		t.Error("BinaryExpansion", list, ok, sum)
	}
}

func TestLeastFactorial(t *testing.T) {
	for _, c := range []struct{ den, want int }{
		{1, 1}, {2, 2}, {3, 3}, {4, 4}, {5, 5}, {6, 3}, {7, 7}, {8, 4}, {9, 6}, {10, 5}, {11, 11}, {12, 4}, {16, 6}, {24, 4}, {25, 10},
		{27, 9}, {32, 8}, {49, 0}, {13, 0}, {26, 0}, {120, 5}, {720, 6}, {721, 0}, {1024, 12}, {2048, 0}, {243, 12}, {729, 0},
		{39916800, 11}, {39916801, 0}, {239500800, 12}, {479001600, 12}, {479001599, 0}, {479001601, 0}, {958003200, 0},
		{billion, 0}, {6227020800, 0}, {math.MaxInt, 0}, {0, 0}, {-1, 0}, {-2, 0}, {-24, 0}, {math.MinInt, 0},
	} {
		if got, ok := impl.LeastFactorial(c.den); got != c.want || ok != (c.want != 0) {
			t.Error("LeastFactorial", c.den, got, ok)
		}
	}
}

func TestFactorialDigits(t *testing.T) {
	checkMethod(t, "FactorialDigits", impl.FactorialDigits, []fractionRow{
		{fraction(3, 8), []int{0, 2, 1}},
		{fraction(4, 5), []int{1, 1, 3, 1}},
		{fraction(1, 2), []int{1}},
		{fraction(1, 3), []int{0, 2}},
		{fraction(1, 24), []int{0, 0, 1}},
		{fraction(9, 16), []int{1, 0, 1, 2, 3}},
		{fraction(3, 11), []int{0, 1, 2, 2, 4, 2, 4, 3, 2, 8}},
		{fraction(1, 479001600), []int{0, 0, 0, 0, 0, 0, 0, 0, 0, 0, 1}},
		{fraction(479001599, 479001600), upTo(11)},
		{fraction(1, 13), nil},
		{fraction(1, 479001601), nil},
		{fraction(1, billion), nil},
	})
}

func TestFromFactorial(t *testing.T) {
	for _, c := range []struct {
		digits []int
		want   impl.Fraction
	}{
		{nil, fraction(0, 1)},
		{[]int{}, fraction(0, 1)},
		{[]int{0}, fraction(0, 1)},
		{[]int{0, 0, 0}, fraction(0, 1)},
		{[]int{1}, fraction(1, 2)},
		// The last digits may be 0, so that fewer would do.
		{[]int{1, 0}, fraction(1, 2)},
		{[]int{0, 2}, fraction(1, 3)},
		{[]int{0, 2, 1}, fraction(3, 8)},
		{[]int{1, 2}, fraction(5, 6)},
		{[]int{1, 1, 3, 1}, fraction(4, 5)},
		{make([]int, 11), fraction(0, 1)},
		{upTo(11), fraction(479001599, 479001600)},
		{append(make([]int, 10), 1), fraction(1, 479001600)},
		{append(make([]int, 10), 11), fraction(1, 43545600)},
		// There is one digit too many.
		{make([]int, 12), none},
		{upTo(12), none},
		{make([]int, 1000), none},
		// A digit is out of range.
		{[]int{2}, none},
		{[]int{-1}, none},
		{[]int{0, 3}, none},
		{[]int{1, -1}, none},
		{[]int{1, 2, 4}, none},
		{[]int{2, 0, 0}, none},
		{append(make([]int, 10), 12), none},
		{append(make([]int, 10), -1), none},
		{[]int{math.MinInt}, none},
		{[]int{0, math.MaxInt}, none},
		{[]int{math.MinInt, math.MaxInt, math.MinInt}, none},
	} {
		if got, ok := impl.FromFactorial(c.digits); got != c.want || ok != (c.want != none) {
			t.Error("FromFactorial", c.digits, got, ok)
		}
	}
}

func TestFactorialExpansion(t *testing.T) {
	checkMethod(t, "FactorialExpansion", impl.FactorialExpansion, []fractionRow{
		{fraction(3, 8), []int{3, 24}},
		{fraction(4, 5), []int{2, 6, 8, 120}},
		{fraction(1, 2), []int{2}},
		{fraction(1, 3), []int{3}},
		{fraction(1, 24), []int{24}},
		{fraction(9, 16), []int{2, 24, 60, 240}},
		{fraction(5, 32), []int{8, 40, 180, 1680, 10080}},
		{fraction(1, 479001600), []int{479001600}},
		{fraction(479001599, 479001600), []int{2, 3, 8, 30, 144, 840, 5760, 45360, 403200, 3991680, 43545600}},
		{fraction(1, 13), nil},
		{fraction(12, 13), nil},
		{fraction(1, billion), nil},
	})
}

func TestPairExpansion(t *testing.T) {
	checkMethod(t, "PairExpansion", impl.PairExpansion, []fractionRow{
		{fraction(2, 5), []int{3, 15}},
		{fraction(3, 7), []int{4, 7, 28}},
		{fraction(3, 10), []int{5, 10}},
		{fraction(3, 11), []int{6, 11, 66}},
		// Pairs of pairs: 3 and 15 stand there twice.
		{fraction(4, 5), []int{2, 6, 8, 120}},
		{fraction(4, 11), []int{3, 33}},
		{fraction(7, 8), []int{2, 4, 8}},
		{fraction(8, 9), []int{2, 6, 8, 12, 120, 276, 518, 536130}},
		{fraction(1, 2), []int{2}},
		{fraction(1, 7), []int{7}},
		{fraction(1, billion), []int{billion}},
		{fraction(3, billion), []int{billion / 2, billion}},
		{fraction(3, billion-1), nil},
		// Num is MaxTerms, and there are 40 rounds.
		{fraction(24, 37), []int{3, 5, 15, 48, 88, 95, 176, 4560, 61864, 123728}},
		{fraction(23, 32), []int{2, 8, 16, 32}},
		// Num is greater than MaxTerms, though 2, 4 and 32 would be enough for the first one.
		{fraction(25, 32), nil},
		{fraction(31, 32), nil},
		{fraction(25, 26), nil},
		{fraction(billion-1, billion), nil},
		// The greatest number is the last one under 10^9, and the first one above.
		{fraction(2, 44719), []int{22360, 999916840}},
		{fraction(2, 44721), nil},
		// The number 44723 44724 / 2 is too great, though two of it would become one that is not.
		{fraction(4, 44723), nil},
		{fraction(24, 25), nil},
		// The numbers 6, 43, 66, 85, 237, 457, 3655, 112101, 1670335 have a sum on the way that is no fraction.
		{fraction(19, 85), nil},
	})
}

func TestSplitExpansion(t *testing.T) {
	checkMethod(t, "SplitExpansion", impl.SplitExpansion, []fractionRow{
		{fraction(2, 3), []int{3, 4, 12}},
		{fraction(2, 5), []int{5, 6, 30}},
		{fraction(3, 7), []int{7, 8, 9, 56, 57, 72, 3192}},
		{fraction(3, 11), []int{11, 12, 13, 132, 133, 156, 17556}},
		{fraction(4, 5), []int{5, 6, 7, 8, 30, 31, 32, 42, 43, 56, 930, 931, 992, 1806, 865830}},
		{fraction(1, 2), []int{2}},
		{fraction(1, 7), []int{7}},
		{fraction(1, billion), []int{billion}},
		// The greatest number is the last one under 10^9, and the first one above.
		{fraction(2, 31621), []int{31621, 31622, 999919262}},
		{fraction(2, 31623), nil},
		{fraction(3, billion), nil},
		{fraction(5, 6), nil},
		{fraction(24, 25), nil},
		{fraction(25, 26), nil},
		{fraction(billion-1, billion), nil},
		// The 15 different numbers that are found have a sum on the way that is no fraction.
		{fraction(4, 11), nil},
	})
}

func TestMergeAll(t *testing.T) {
	for _, c := range []struct{ list, want []int }{
		{nil, []int{}},
		{[]int{}, []int{}},
		{[]int{1}, []int{1}},
		{[]int{billion}, []int{billion}},
		{[]int{3, 6}, []int{2}},
		{[]int{3, 4}, []int{3, 4}},
		{[]int{4, 6, 12}, []int{2}},
		{[]int{2, 4, 20}, []int{2, 4, 20}},
		{[]int{5, 10, 12, 15, 20}, []int{2}},
		// The pair 3 and 6 comes before 6 and 12.
		{[]int{3, 6, 12}, []int{2, 12}},
		{[]int{3, 5, 6, 12}, []int{2, 5, 12}},
		// The pair 5 and 20 comes before 6 and 12.
		{[]int{5, 6, 12, 20}, []int{2}},
		// The only pairs become terms which are there already.
		{[]int{2, 3, 6}, []int{2, 3, 6}},
		{[]int{1, 2, 3, 6}, []int{1, 2, 3, 6}},
		{[]int{2, 4, 5, 20}, []int{2, 4, 5, 20}},
		{[]int{2, 4, 6, 12}, []int{2, 3, 6}},
		// Without the pair that becomes 1594180 there is a sum on the way that is no fraction: another pair goes first, or none at all.
		{[]int{1627220, 13831370, 20747055, 78513365}, []int{1594180, 8298822}},
		{[]int{1627220, 4149411, 20747055, 78513365}, []int{1627220, 4149411, 20747055, 78513365}},
		{[]int{333333333, 666666666}, []int{222222222}},
	} {
		got, ok := impl.MergeAll(c.list)
		checkList(t, "MergeAll", c.list, got, ok, c.want, true)
	}
	for _, bad := range notExpansions {
		got, ok := impl.MergeAll(bad)
		checkList(t, "MergeAll", bad, got, ok, nil, false)
	}
}

func TestMethodSizesAndBestMethod(t *testing.T) {
	sizes, best := []fractionRow{}, []fractionRow{}
	for _, row := range []struct {
		a           impl.Fraction
		sizes, best []int
	}{
		// Greedy steps are the first of four that have three terms.
		{fraction(3, 7), []int{3, 3, 4, 5, 3, 3}, []int{3, 11, 231}},
		{fraction(1, 2), []int{1, 1, 1, 1, 1, 1}, []int{2}},
		{fraction(2, 3), []int{2, 2, 2, 2, 2, 2}, []int{2, 6}},
		{fraction(4, 5), []int{3, 4, 3, 4, 4, 3}, []int{2, 4, 20}},
		// Each of the other methods is the best one somewhere.
		{fraction(14, 37), []int{4, 3, 3, 0, 10, 5}, []int{3, 24, 296}},
		{fraction(5, 32), []int{3, 3, 2, 5, 2, 3}, []int{8, 32}},
		{fraction(39, 80), []int{5, 20, 6, 4, 0, 6}, []int{3, 8, 40, 240}},
		{fraction(11, 28), []int{3, 6, 3, 4, 2, 3}, []int{4, 7}},
		{fraction(4, 17), []int{4, 4, 5, 0, 4, 3}, []int{5, 30, 510}},
		// Pairs come before the Engel terms 7, 56 and 1736, and greedy steps fail.
		{fraction(5, 31), []int{0, 5, 4, 0, 3, 3}, []int{8, 31, 248}},
		{fraction(24, 25), []int{4, 24, 6, 8, 0, 7}, []int{2, 3, 8, 600}},
		{fraction(25, 26), []int{4, 0, 6, 0, 0, 7}, []int{2, 3, 8, 312}},
		{fraction(33, 67), []int{5, 0, 8, 0, 0, 0}, []int{3, 7, 62, 4592, 28612752}},
		{fraction(479001599, 479001600), []int{0, 0, 0, 11, 0, 0}, []int{2, 3, 8, 30, 144, 840, 5760, 45360, 403200, 3991680, 43545600}},
		{fraction(1, billion), []int{1, 1, 0, 0, 1, 1}, []int{billion}},
		// All of them fail.
		{fraction(2, 44721), []int{0, 0, 0, 0, 0, 0}, nil},
		{fraction(229, billion), []int{0, 0, 0, 0, 0, 0}, nil},
	} {
		sizes = append(sizes, fractionRow{row.a, row.sizes})
		best = append(best, fractionRow{row.a, row.best})
	}
	checkMethod(t, "MethodSizes", impl.MethodSizes, sizes)
	checkMethod(t, "BestMethod", impl.BestMethod, best)
}

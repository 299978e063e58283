package tests

import (
	"math"
	"slices"
	"testing"

	"loop.example/g01107/impl"
)

// Guarantee 4 by examples: every function of chapter 4 at the ordinary places and at the limits.

// notNumbers are out of 1..MaxNumber, some of them by one.
var notNumbers = []int{0, 2001, -1, -2, -6, -12, -2000, 2002, 2016, 4000, 100000, billion, math.MinInt, math.MinInt + 1, math.MaxInt}

// notSums are out of 0..100000, some of them by one.
var notSums = []int{-1, 100001, -2, -12, -100000, billion, math.MinInt, math.MaxInt}

// allDivisors2000 are those of MaxNumber.
var allDivisors2000 = []int{1, 2, 4, 5, 8, 10, 16, 20, 25, 40, 50, 80, 100, 125, 200, 250, 400, 500, 1000, 2000}

func TestPracticalLimits(t *testing.T) {
	if impl.MaxNumber != 2000 || impl.MaxWays != 1000000000 {
		t.Error(impl.MaxNumber, impl.MaxWays)
	}
}

func TestDivisorsOfAndDivisorSum(t *testing.T) {
	for _, c := range []struct {
		n    int
		want []int
		sum  int
	}{
		{1, []int{1}, 1},
		{2, []int{1, 2}, 3},
		{3, []int{1, 3}, 4},
		{4, []int{1, 2, 4}, 7},
		{6, []int{1, 2, 3, 6}, 12},
		{9, []int{1, 3, 9}, 13},
		{10, []int{1, 2, 5, 10}, 18},
		{12, []int{1, 2, 3, 4, 6, 12}, 28},
		{49, []int{1, 7, 49}, 57},
		{1024, []int{1, 2, 4, 8, 16, 32, 64, 128, 256, 512, 1024}, 2047},
		{1849, []int{1, 43, 1849}, 1893},
		{1980, []int{1, 2, 3, 4, 5, 6, 9, 10, 11, 12, 15, 18, 20, 22, 30, 33, 36, 44, 45, 55, 60, 66, 90, 99, 110, 132, 165, 180, 198, 220, 330, 396, 495, 660, 990, 1980}, 6552},
		{1999, []int{1, 1999}, 2000},
		{2000, allDivisors2000, 4836},
	} {
		got, ok := impl.DivisorsOf(c.n)
		checkList(t, "DivisorsOf", c.n, got, ok, c.want, true)
		if sum, ok := impl.DivisorSum(c.n); sum != c.sum || !ok {
			t.Error("DivisorSum", c.n, sum, ok)
		}
	}
	for _, bad := range notNumbers {
		got, ok := impl.DivisorsOf(bad)
		checkList(t, "DivisorsOf", bad, got, ok, nil, false)
		if sum, ok := impl.DivisorSum(bad); sum != 0 || ok {
			t.Error("DivisorSum", bad, sum, ok)
		}
	}
}

func TestPrimePowers(t *testing.T) {
	for _, c := range []struct {
		n              int
		primes, counts []int
	}{
		{1, []int{}, []int{}},
		{2, []int{2}, []int{1}},
		{3, []int{3}, []int{1}},
		{4, []int{2}, []int{2}},
		{12, []int{2, 3}, []int{2, 1}},
		{18, []int{2, 3}, []int{1, 2}},
		{70, []int{2, 5, 7}, []int{1, 1, 1}},
		{210, []int{2, 3, 5, 7}, []int{1, 1, 1, 1}},
		{343, []int{7}, []int{3}},
		{1024, []int{2}, []int{10}},
		{1458, []int{2, 3}, []int{1, 6}},
		{1849, []int{43}, []int{2}},
		{1980, []int{2, 3, 5, 11}, []int{2, 2, 1, 1}},
		{1998, []int{2, 3, 37}, []int{1, 3, 1}},
		{1999, []int{1999}, []int{1}},
		{2000, []int{2, 5}, []int{4, 3}},
	} {
		primes, counts, ok := impl.PrimePowers(c.n)
		checkList(t, "PrimePowers", c.n, primes, ok, c.primes, true)
		checkList(t, "PrimePowers", c.n, counts, ok, c.counts, true)
	}
	for _, bad := range notNumbers {
		primes, counts, ok := impl.PrimePowers(bad)
		checkList(t, "PrimePowers", bad, primes, ok, nil, false)
		checkList(t, "PrimePowers", bad, counts, ok, nil, false)
	}
}

// The functions that tell whether a number is practical agree: a row with the prime number 0 is for one that is.
func TestIsPracticalAndBreakOfAndUnreachedOf(t *testing.T) {
	for _, c := range []struct{ n, prime, product, unreached int }{
		{1, 0, 0, 0},
		{2, 0, 0, 0},
		{4, 0, 0, 0},
		{6, 0, 0, 0},
		{8, 0, 0, 0},
		{12, 0, 0, 0},
		{1024, 0, 0, 0},
		{1998, 0, 0, 0},
		{2000, 0, 0, 0},
		// Odd numbers are broken at their first prime number.
		{3, 3, 1, 2},
		{5, 5, 1, 2},
		{9, 3, 1, 2},
		{15, 3, 1, 2},
		{343, 7, 1, 2},
		{1997, 1997, 1, 2},
		{1999, 1999, 1, 2},
		// Others are broken at the second one, or at the third one.
		{10, 5, 2, 4},
		{14, 7, 2, 4},
		{44, 11, 4, 8},
		{1996, 499, 4, 8},
		{102, 17, 6, 13},
		{1988, 71, 28, 57},
		{1992, 83, 24, 61},
		// They may be broken at further ones: the least one is told.
		{70, 5, 2, 4},
		{770, 5, 2, 4},
		{350, 5, 2, 4},
		{45, 3, 1, 2},
		// The prime number is 1 more than the sum of the divisors of the product, and greater than that.
		{78, 0, 0, 0},
		{136, 17, 8, 16},
		{88, 0, 0, 0},
		{56, 0, 0, 0},
		{28, 0, 0, 0},
		{496, 0, 0, 0},
		{20, 0, 0, 0},
		{52, 13, 4, 8},
		{18, 0, 0, 0},
		{50, 5, 2, 4},
	} {
		isBroken := c.prime != 0
		if is, ok := impl.IsPractical(c.n); is == isBroken || !ok {
			t.Error("IsPractical", c.n, is, ok)
		}
		if prime, product, ok := impl.BreakOf(c.n); prime != c.prime || product != c.product || ok != isBroken {
			t.Error("BreakOf", c.n, prime, product, ok)
		}
		if unreached, ok := impl.UnreachedOf(c.n); unreached != c.unreached || ok != isBroken {
			t.Error("UnreachedOf", c.n, unreached, ok)
		}
	}
	for _, bad := range notNumbers {
		if is, ok := impl.IsPractical(bad); is || ok {
			t.Error("IsPractical", bad, is, ok)
		}
		if prime, product, ok := impl.BreakOf(bad); prime != 0 || product != 0 || ok {
			t.Error("BreakOf", bad, prime, product, ok)
		}
		if unreached, ok := impl.UnreachedOf(bad); unreached != 0 || ok {
			t.Error("UnreachedOf", bad, unreached, ok)
		}
	}
}

type sumRow struct {
	n, sum int
	// The divisors are nil if the sum is not reached.
	divisors []int
	ways     int
}

var sumRows = []sumRow{
	{1, 0, []int{}, 1},
	{1, 1, []int{1}, 1},
	{1, 2, nil, 0},
	{7, 0, []int{}, 1},
	{7, 1, []int{1}, 1},
	{7, 2, nil, 0},
	{7, 7, []int{7}, 1},
	{7, 8, []int{7, 1}, 1},
	{7, 9, nil, 0},
	{10, 3, []int{2, 1}, 1},
	{10, 4, nil, 0},
	{10, 8, []int{5, 2, 1}, 1},
	{10, 9, nil, 0},
	{10, 13, []int{10, 2, 1}, 1},
	{10, 14, nil, 0},
	{10, 18, []int{10, 5, 2, 1}, 1},
	{10, 19, nil, 0},
	{6, 6, []int{6}, 2},
	{12, 10, []int{6, 4}, 3},
	{12, 12, []int{12}, 3},
	{12, 16, []int{12, 4}, 3},
	{12, 20, []int{12, 6, 2}, 2},
	// The list 12, 1 is greater than the longer ones 6, 4, 3 and 6, 4, 2, 1, and 6, 4, 1 is greater than 6, 3, 2.
	{12, 13, []int{12, 1}, 3},
	{12, 11, []int{6, 4, 1}, 2},
	{12, 28, []int{12, 6, 4, 3, 2, 1}, 1},
	{12, 29, nil, 0},
	{24, 24, []int{24}, 6},
	{60, 60, []int{60}, 35},
	{60, 100, []int{60, 30, 10}, 35},
	// The greatest divisor that fits, 70, leaves 4, which is no sum.
	{70, 74, []int{35, 14, 10, 7, 5, 2, 1}, 1},
	{120, 180, []int{120, 60}, 280},
	{1024, 1023, []int{512, 256, 128, 64, 32, 16, 8, 4, 2, 1}, 1},
	{1024, 2047, []int{1024, 512, 256, 128, 64, 32, 16, 8, 4, 2, 1}, 1},
	{1024, 2048, nil, 0},
	{1680, 2976, []int{1680, 840, 420, 35, 1}, 327236306},
	{1680, 2946, []int{1680, 840, 420, 6}, 327238395},
	{1680, 5952, []int{1680, 840, 560, 420, 336, 280, 240, 210, 168, 140, 120, 112, 105, 84, 80, 70, 60, 56, 48, 42, 40, 35, 30, 28, 24, 21, 20, 16, 15, 14, 12, 10, 8, 7, 6, 5, 4, 3, 2, 1}, 1},
	{1999, 1998, nil, 0},
	{1999, 2000, []int{1999, 1}, 1},
	{1999, 2001, nil, 0},
	{2000, 0, []int{}, 1},
	{2000, 2500, []int{2000, 500}, 285},
	{2000, 4836, []int{2000, 1000, 500, 400, 250, 200, 125, 100, 80, 50, 40, 25, 20, 16, 10, 8, 5, 4, 2, 1}, 1},
	{2000, 4837, nil, 0},
	{1, 100000, nil, 0},
	{12, 100000, nil, 0},
	{2000, 100000, nil, 0},
}

func TestDivisorsForAndCountSums(t *testing.T) {
	for _, c := range sumRows {
		got, ok := impl.DivisorsFor(c.n, c.sum)
		checkList(t, "DivisorsFor", []int{c.n, c.sum}, got, ok, c.divisors, c.divisors != nil)
		if is, isAsked := impl.AreDivisorsFor(c.n, c.sum, got); is != ok || !isAsked {
			// A sum that is not reached is that of no list, the empty one least of all.
			t.Error("AreDivisorsFor", c.n, c.sum, got, is, isAsked)
		}
		if ways, ok := impl.CountSums(c.n, c.sum); ways != c.ways || !ok {
			t.Error("CountSums", c.n, c.sum, ways, ok)
		}
	}
}

func TestSumsThatAreNotAsked(t *testing.T) {
	check := func(n int, sum int) {
		t.Helper()
		list, ok := impl.DivisorsFor(n, sum)
		checkList(t, "DivisorsFor", []int{n, sum}, list, ok, nil, false)
		if ways, ok := impl.CountSums(n, sum); ways != 0 || ok {
			t.Error("CountSums", n, sum, ways, ok)
		}
		for _, list := range [][]int{nil, {1}, {n}, {sum}, {2, 1}} {
			if is, ok := impl.AreDivisorsFor(n, sum, list); is || ok {
				t.Error("AreDivisorsFor", n, sum, list, is, ok)
			}
		}
	}
	for _, bad := range notNumbers {
		for _, sum := range append([]int{0, 1, 2, 3, 12, 2001, 100000}, notSums...) {
			check(bad, sum)
		}
	}
	for _, bad := range notSums {
		for _, n := range []int{1, 2, 7, 12, 1680, 2000} {
			check(n, bad)
		}
	}
}

func TestAreDivisorsFor(t *testing.T) {
	for _, c := range []struct {
		n, sum int
		list   []int
		want   bool
	}{
		{12, 10, []int{6, 4}, true},
		{12, 10, []int{6, 3, 1}, true},
		{12, 0, nil, true},
		{12, 0, []int{}, true},
		{1, 1, []int{1}, true},
		{1, 0, []int{}, true},
		{12, 28, []int{12, 6, 4, 3, 2, 1}, true},
		{2000, 4836, []int{2000, 1000, 500, 400, 250, 200, 125, 100, 80, 50, 40, 25, 20, 16, 10, 8, 5, 4, 2, 1}, true},
		// The sum is another one.
		{12, 11, []int{6, 4}, false},
		{12, 9, []int{6, 4}, false},
		{12, 1, nil, false},
		{12, 0, []int{1}, false},
		{12, 100000, []int{12, 6}, false},
		// The list is not strictly decreasing.
		{12, 10, []int{4, 6}, false},
		{12, 12, []int{6, 6}, false},
		{12, 12, []int{6, 4, 1, 1}, false},
		{12, 10, []int{1, 3, 6}, false},
		{12, 13, []int{6, 3, 4}, false},
		// Its numbers are no divisors.
		{12, 5, []int{5}, false},
		{12, 11, []int{6, 5}, false},
		{12, 24, []int{24}, false},
		{12, 36, []int{24, 12}, false},
		{12, 6, []int{6, 0}, false},
		{12, 0, []int{0}, false},
		{12, 5, []int{6, -1}, false},
		{12, 0, []int{12, -12}, false},
		{12, 9, []int{12, -3}, false},
		{12, 0, []int{6, -1, -2, -3}, false},
		{1, 2, []int{2}, false},
		{12, 4, []int{math.MinInt, 4}, false},
		{12, 4, []int{4, math.MinInt}, false},
		{12, 11, []int{math.MaxInt, 12}, false},
		{12, 0, []int{math.MinInt}, false},
		{12, 0, []int{math.MaxInt, 1, math.MinInt}, false},
		// They have the sum as an int that has passed its own end.
		{12, 0, []int{math.MaxInt, math.MaxInt, 2}, false},
		{12, 12, slices.Repeat([]int{1}, 12), false},
	} {
		if is, ok := impl.AreDivisorsFor(c.n, c.sum, c.list); is != c.want || !ok {
			t.Error("AreDivisorsFor", c.n, c.sum, c.list, is, ok)
		}
	}
}

func TestNextPracticalAndPracticalsUpTo(t *testing.T) {
	first := []int{1, 2, 4, 6, 8, 12, 16, 18, 20, 24, 28, 30, 32, 36, 40, 42, 48, 54, 56, 60, 64, 66, 72, 78, 80, 84, 88, 90, 96, 100}
	last := []int{1960, 1968, 1974, 1976, 1980, 1984, 1998, 2000}
	for most := 1; most <= 100; most++ {
		got, ok := impl.PracticalsUpTo(most)
		least := slices.IndexFunc(first, func(n int) bool { return n > most })
		if least < 0 {
			least = len(first)
		}
		checkList(t, "PracticalsUpTo", most, got, ok, first[:least], true)
		if next, ok := impl.NextPractical(most); most < 100 && (next != first[least] || !ok) {
			t.Error("NextPractical", most, next, ok)
		}
	}
	for most, want := range map[int][]int{2000: last, 1999: last[:7], 1998: last[:7], 1997: last[:6]} {
		got, ok := impl.PracticalsUpTo(most)
		from := slices.Index(got, last[0])
		if len(got) != 361-(8-len(want)) || from < 0 || !slices.Equal(got[from:], want) || !slices.Equal(got[:len(first)], first) || !ok {
			t.Error("PracticalsUpTo", most, len(got), ok)
		}
	}
	// MaxNumber is the next one, and there is none behind it.
	for n, want := range map[int]int{1984: 1998, 1996: 1998, 1997: 1998, 1998: 2000, 1999: 2000, 2000: 0} {
		if next, ok := impl.NextPractical(n); next != want || ok != (want != 0) {
			t.Error("NextPractical", n, next, ok)
		}
	}
	for _, bad := range notNumbers {
		if next, ok := impl.NextPractical(bad); next != 0 || ok {
			t.Error("NextPractical", bad, next, ok)
		}
		got, ok := impl.PracticalsUpTo(bad)
		checkList(t, "PracticalsUpTo", bad, got, ok, nil, false)
	}
}

func TestIsPrimitive(t *testing.T) {
	// The quotient 1 is left aside only for 2: the quotient of any greater practical number by its greatest prime number is practical.
	for n, want := range map[int]bool{
		1: true, 2: true, 3: false, 4: false, 5: false, 6: false, 8: false, 9: false, 10: false, 12: false, 16: false, 20: false,
		28: false, 30: false, 42: false, 66: false, 88: false, 1024: false, 1997: false, 1998: false, 1999: false, 2000: false,
	} {
		if is, ok := impl.IsPrimitive(n); is != want || !ok {
			t.Error("IsPrimitive", n, is, ok)
		}
	}
	for _, bad := range notNumbers {
		if is, ok := impl.IsPrimitive(bad); is || ok {
			t.Error("IsPrimitive", bad, is, ok)
		}
	}
}

func TestExpandOver(t *testing.T) {
	all24 := []int{1, 2, 3, 4, 5, 6, 8, 9, 10, 12, 15, 18, 20, 24, 30, 36, 40, 45, 60, 72, 90, 120, 180, 360}
	for _, c := range []struct {
		a    impl.Fraction
		n    int
		want []int
	}{
		{fraction(5, 6), 12, []int{2, 3}},
		{fraction(5, 6), 6, []int{2, 3}},
		{fraction(5, 6), 2000, nil},
		{fraction(4, 5), 10, []int{2, 5, 10}},
		{fraction(4, 5), 20, []int{2, 4, 20}},
		{fraction(1, 2000), 2000, []int{2000}},
		{fraction(1999, 2000), 2000, []int{2, 4, 5, 25, 125, 1000, 2000}},
		{fraction(1, 1999), 1999, []int{1999}},
		// The fraction times the number is no whole number.
		{fraction(5, 6), 4, nil},
		{fraction(5, 6), 1, nil},
		{fraction(5, 6), 3, nil},
		{fraction(1, 12), 6, nil},
		{fraction(1, 2001), 2000, nil},
		{fraction(1, billion), 2000, nil},
		// It is no sum.
		{fraction(2, 5), 5, nil},
		{fraction(2, 5), 10, nil},
		{fraction(2, 5), 15, []int{3, 15}},
		{fraction(1998, 1999), 1999, nil},
		// The fraction 0 has no terms.
		{fraction(0, 1), 1, []int{}},
		{fraction(0, 1), 7, []int{}},
		{fraction(0, 1), 2000, []int{}},
		// The fraction 1 is one term.
		{fraction(1, 1), 1, []int{1}},
		{fraction(1, 1), 7, []int{1}},
		{fraction(1, 1), 2000, []int{1}},
		// Greater fractions are told up to the greatest sum.
		{fraction(3, 2), 2, []int{1, 2}},
		{fraction(3, 2), 4, []int{1, 2}},
		{fraction(8, 7), 7, []int{1, 7}},
		{fraction(9, 7), 7, nil},
		{fraction(2, 1), 6, []int{1, 2, 3, 6}},
		{fraction(2, 1), 5, nil},
		{fraction(2, 1), 4, nil},
		{fraction(3, 1), 120, []int{1, 2, 3, 4, 5, 6, 8, 10, 12, 15, 20, 24, 30, 40, 60, 120}},
		{fraction(361, 120), 120, nil},
		{fraction(1209, 500), 2000, []int{1, 2, 4, 5, 8, 10, 16, 20, 25, 40, 50, 80, 100, 125, 200, 250, 400, 500, 1000, 2000}},
		{fraction(4837, 2000), 2000, nil},
		// The sum is 100000, and 100001.
		{fraction(50, 1), 2000, nil},
		{fraction(100001, 2000), 2000, nil},
		{fraction(billion, 1), 2000, nil},
		{fraction(billion, 1), 1, nil},
		{fraction(billion, billion-1), 2000, nil},
		// There are MaxTerms terms, and one more, which no expansion has.
		{fraction(13, 4), 360, all24},
		{fraction(10, 3), 720, nil},
		{fraction(124, 35), 1680, nil},
		{fraction(10, 3), 840, []int{1, 2, 3, 4, 5, 6, 7, 8, 10, 12, 14, 15, 20, 21, 24, 28, 30, 35, 40, 42, 120}},
	} {
		got, ok := impl.ExpandOver(c.a, c.n)
		checkList(t, "ExpandOver", []any{c.a, c.n}, got, ok, c.want, c.want != nil)
	}
	if list, ok := impl.DivisorsFor(720, 2400); len(list) != 25 || !ok {
		t.Error("DivisorsFor has not as many divisors as told", list, ok)
	}
	for _, bad := range notFractions {
		for _, n := range []int{1, 2, 12, 2000} {
			got, ok := impl.ExpandOver(bad, n)
			checkList(t, "ExpandOver", []any{bad, n}, got, ok, nil, false)
		}
	}
	for _, bad := range notNumbers {
		for _, a := range []impl.Fraction{fraction(0, 1), fraction(1, 1), fraction(1, 2), fraction(5, 6), fraction(1, 2001), none} {
			got, ok := impl.ExpandOver(a, bad)
			checkList(t, "ExpandOver", []any{a, bad}, got, ok, nil, false)
		}
	}
}

func TestLeastOver(t *testing.T) {
	for a, want := range map[impl.Fraction]int{
		fraction(5, 6): 6, fraction(1, 2): 2, fraction(3, 7): 28, fraction(2, 5): 15, fraction(2, 3): 6, fraction(13, 17): 68,
		fraction(9, 10): 20, fraction(1, 1): 1, fraction(0, 1): 1, fraction(36, 37): 444,
		// The least number need not be practical.
		fraction(4, 5): 10, fraction(7, 5): 15, fraction(1, 1999): 1999, fraction(1, 37): 37,
		fraction(3, 2): 2, fraction(5, 2): 24, fraction(39, 20): 20, fraction(2, 1): 6, fraction(3, 1): 120, fraction(16, 5): 360,
		// The number 720 would need more than MaxTerms terms.
		fraction(10, 3): 840, fraction(599, 180): 1260,
		// MaxNumber is the least one, and would have to be passed.
		fraction(1, 2000): 2000, fraction(1999, 2000): 2000, fraction(1, 2001): 0, fraction(2, 2001): 0,
		fraction(1998, 1999): 0, fraction(100, 101): 0, fraction(2, 1001): 0, fraction(7, 2): 0, fraction(124, 35): 0,
		fraction(4, 1): 0, fraction(50, 1): 0, fraction(100001, 1): 0, fraction(billion, 1): 0, fraction(1, billion): 0, fraction(billion, billion-1): 0,
	} {
		if got, ok := impl.LeastOver(a); got != want || ok != (want != 0) {
			t.Error("LeastOver", a, got, ok)
		}
	}
	for _, bad := range notFractions {
		if got, ok := impl.LeastOver(bad); got != 0 || ok {
			t.Error("LeastOver", bad, got, ok)
		}
	}
}

func TestPracticalExpansion(t *testing.T) {
	checkRows(t, "PracticalExpansion", impl.PracticalExpansion, []fractionRow{
		{fraction(5, 6), []int{2, 3}},
		{fraction(1, 2), []int{2}},
		{fraction(3, 7), []int{4, 7, 28}},
		{fraction(9, 10), []int{2, 4, 10, 20}},
		{fraction(0, 1), []int{}},
		// The least practical number is greater than the number of LeastOver.
		{fraction(4, 5), []int{2, 4, 20}},
		{fraction(36, 37), []int{2, 3, 9, 37, 666}},
		{fraction(1, 37), []int{37}},
		// MaxNumber is the least one.
		{fraction(1, 2000), []int{2000}},
		{fraction(1999, 2000), []int{2, 4, 5, 25, 125, 1000, 2000}},
		{fraction(999, 1000), []int{2, 4, 5, 25, 125, 1000}},
		// There is no practical number, though 1999 divides 1999.
		{fraction(1, 1999), nil},
		{fraction(1998, 1999), nil},
		{fraction(1, 1997), nil},
		{fraction(1, 1001), nil},
		{fraction(100, 101), nil},
		{fraction(1, 2001), nil},
		{fraction(1, 2002), nil},
		{fraction(1, 4000), nil},
		{fraction(1, billion), nil},
		{fraction(billion-1, billion), nil},
		// The fraction is 1 or more.
		{fraction(1, 1), nil},
		{fraction(3, 2), nil},
		{fraction(7, 6), nil},
		{fraction(2, 1), nil},
		{fraction(billion, 1), nil},
		{fraction(billion, billion-1), nil},
	})
}

package tests

import (
	"math"
	"slices"
	"testing"

	"loop.example/g01107/impl"
)

// Guarantee 5 by examples: every function of chapter 5 at the ordinary places and at the limits.

// notPositive are no fractions, or not greater than 0.
var notPositive = append([]impl.Fraction{fraction(0, 1)}, notFractions...)

// notTwo are fractions whose Den is greater than MaxTwo, some of them by one.
var notTwo = []impl.Fraction{
	fraction(1, 20001), fraction(2, 20001), fraction(20000, 20001), fraction(20002, 20001), fraction(1, 20002), fraction(1, 40000), fraction(3, 40000),
	fraction(1, billion), fraction(billion-1, billion), fraction(billion, billion-1),
}

// notThree are fractions whose Den is greater than MaxThree, some of them by one.
var notThree = append([]impl.Fraction{fraction(1, 121), fraction(4, 121), fraction(120, 121), fraction(122, 121), fraction(221, 122), fraction(1, 240), fraction(1, 20000)}, notTwo...)

// notFewTerms are out of 1..MaxFewTerms, some of them by one.
var notFewTerms = []int{0, 6, -1, -3, 7, 24, 60, billion, math.MinInt, math.MaxInt}

// notSmall are out of 1..MaxSmall, some of them by one.
var notSmall = []int{0, 61, -1, -6, -60, 62, 120, billion, math.MinInt, math.MaxInt}

func checkLists(t *testing.T, name string, args any, got [][]int, ok bool, want [][]int, wantOK bool) {
	t.Helper()
	if ok != wantOK {
		t.Error(name, args, "is told:", ok)
	}
	if !slices.EqualFunc(got, want, slices.Equal) {
		t.Error(name, args, got, "is not", want)
	}
}

func TestFewLimits(t *testing.T) {
	if impl.MaxTwo != 20000 || impl.MaxThree != 120 || impl.MaxSmall != 60 || impl.MaxFewTerms != 5 || impl.MaxFound != 1000 {
		t.Error(impl.MaxTwo, impl.MaxThree, impl.MaxSmall, impl.MaxFewTerms, impl.MaxFound)
	}
}

// A row with the witness 0 is for a fraction that has none.
var twoRows = []struct {
	a       impl.Fraction
	lists   [][]int
	witness int
}{
	{fraction(2, 3), [][]int{{2, 6}}, 1},
	{fraction(1, 2), [][]int{{3, 6}}, 1},
	{fraction(1, 3), [][]int{{4, 12}}, 1},
	{fraction(1, 4), [][]int{{5, 20}, {6, 12}}, 1},
	{fraction(1, 6), [][]int{{7, 42}, {8, 24}, {9, 18}, {10, 15}}, 1},
	{fraction(1, 12), [][]int{{13, 156}, {14, 84}, {15, 60}, {16, 48}, {18, 36}, {20, 30}, {21, 28}}, 1},
	{fraction(2, 5), [][]int{{3, 15}}, 1},
	{fraction(2, 15), [][]int{{8, 120}, {9, 45}, {10, 30}, {12, 20}}, 1},
	// The least witness is greater than 1.
	{fraction(3, 10), [][]int{{4, 20}, {5, 10}}, 2},
	{fraction(3, 4), [][]int{{2, 4}}, 2},
	{fraction(7, 12), [][]int{{2, 12}, {3, 4}}, 2},
	{fraction(19, 90), [][]int{{5, 90}, {9, 10}}, 5},
	// It is next to the Den, as the terms are next to each other.
	{fraction(5, 6), [][]int{{2, 3}}, 4},
	{fraction(9, 20), [][]int{{4, 5}}, 16},
	{fraction(199, 9900), [][]int{{50, 9900}, {99, 100}}, 50},
	// A denominator is 1, and the fraction is 1 or greater.
	{fraction(3, 2), [][]int{{1, 2}}, 1},
	{fraction(4, 3), [][]int{{1, 3}}, 1},
	{fraction(7, 6), [][]int{{1, 6}}, 1},
	{fraction(20001, 20000), [][]int{{1, 20000}}, 1},
	{fraction(1, 1), [][]int{}, 0},
	{fraction(5, 3), [][]int{}, 0},
	{fraction(7, 5), [][]int{}, 0},
	{fraction(2, 1), [][]int{}, 0},
	{fraction(3, 1), [][]int{}, 0},
	{fraction(billion, 1), [][]int{}, 0},
	{fraction(billion-1, 20000), [][]int{}, 0},
	// There is none of two terms below 1 either.
	{fraction(4, 5), [][]int{}, 0},
	{fraction(3, 7), [][]int{}, 0},
	{fraction(4, 13), [][]int{}, 0},
	{fraction(6, 7), [][]int{}, 0},
	{fraction(8, 11), [][]int{}, 0},
	{fraction(19999, 20000), [][]int{}, 0},
	{fraction(39999, 20000), [][]int{}, 0},
	// The Den is the greatest prime number up to MaxTwo.
	{fraction(1, 19997), [][]int{{19998, 399900006}}, 1},
	{fraction(2, 19997), [][]int{{9999, 199950003}}, 1},
	{fraction(5, 19997), [][]int{}, 0},
	{fraction(3, 19997), [][]int{{6666, 133300002}}, 1},
}

func TestTwoTermsAndTwoWitnessAndCountTwo(t *testing.T) {
	for _, c := range twoRows {
		got, ok := impl.TwoTerms(c.a)
		checkLists(t, "TwoTerms", c.a, got, ok, c.lists, true)
		if witness, ok := impl.TwoWitness(c.a); witness != c.witness || ok != (c.witness != 0) {
			t.Error("TwoWitness", c.a, witness, ok)
		}
		if count, ok := impl.CountTwo(c.a); count != len(c.lists) || !ok {
			t.Error("CountTwo", c.a, count, ok)
		}
	}
	for _, bad := range slices.Concat(notPositive, notTwo) {
		got, ok := impl.TwoTerms(bad)
		checkLists(t, "TwoTerms", bad, got, ok, nil, false)
		if witness, ok := impl.TwoWitness(bad); witness != 0 || ok {
			t.Error("TwoWitness", bad, witness, ok)
		}
		if count, ok := impl.CountTwo(bad); count != 0 || ok {
			t.Error("CountTwo", bad, count, ok)
		}
	}
}

// The Den is MaxTwo, and one with more divisors of its square than any other.
func TestTwoTermsOfGreatDens(t *testing.T) {
	for _, c := range []struct {
		den, count  int
		first, last []int
	}{
		{20000, 49, []int{20001, 400020000}, []int{36000, 45000}},
		{18480, 364, []int{18481, 341528880}, []int{36630, 37296}},
	} {
		got, ok := impl.TwoTerms(fraction(1, c.den))
		if len(got) != c.count || !ok {
			t.Fatal("TwoTerms", c.den, len(got), ok)
		}
		if !slices.Equal(got[0], c.first) || !slices.Equal(got[c.count-1], c.last) {
			t.Error("TwoTerms", c.den, got[0], got[c.count-1])
		}
		if count, ok := impl.CountTwo(fraction(1, c.den)); count != c.count || !ok {
			t.Error("CountTwo", c.den, count, ok)
		}
	}
}

func TestIsTwoWitness(t *testing.T) {
	for _, c := range []struct {
		a    impl.Fraction
		d    int
		want bool
	}{
		{fraction(2, 3), 1, true},
		{fraction(1, 2), 1, true},
		{fraction(3, 2), 1, true},
		{fraction(3, 10), 2, true},
		{fraction(3, 10), 5, true},
		{fraction(5, 6), 4, true},
		{fraction(9, 20), 16, true},
		{fraction(1, 20000), 16000, true},
		{fraction(1, 20000), 15625, true},
		{fraction(20001, 20000), 1, true},
		// Its square has no such divisor.
		{fraction(1, 6), 5, false},
		{fraction(1, 12), 5, false},
		{fraction(1, 12), 10, false},
		{fraction(1, 12), 11, false},
		{fraction(3, 5), 4, false},
		{fraction(1, 20000), 19999, false},
		{fraction(39999, 20000), 19999, false},
		// The Num does not divide what it should.
		{fraction(3, 10), 1, false},
		{fraction(3, 10), 4, false},
		{fraction(5, 6), 1, false},
		{fraction(5, 6), 2, false},
		{fraction(5, 6), 3, false},
		{fraction(4, 5), 1, false},
		{fraction(2, 1), 1, false},
		// Both terms would be the same.
		{fraction(1, 1), 1, false},
		{fraction(1, 2), 2, false},
		{fraction(2, 3), 3, false},
		{fraction(1, 6), 6, false},
		{fraction(1, 20000), 20000, false},
		// The first term would be the greater one.
		{fraction(1, 2), 4, false},
		{fraction(2, 3), 9, false},
		{fraction(1, 6), 9, false},
		{fraction(1, 6), 36, false},
		{fraction(1, 20000), 25000, false},
		{fraction(1, 20000), 400000000, false},
		// It is no number of at least 1, or far away from all divisors.
		{fraction(1, 6), 0, false},
		{fraction(1, 6), -1, false},
		{fraction(1, 6), -2, false},
		{fraction(1, 6), -6, false},
		{fraction(5, 6), -6, false},
		{fraction(5, 6), -36, false},
		{fraction(1, 6), math.MinInt, false},
		{fraction(1, 6), math.MaxInt, false},
		{fraction(1, 1), math.MinInt, false},
		{fraction(1, 1), math.MaxInt, false},
		{fraction(billion, 1), math.MaxInt, false},
	} {
		if is, ok := impl.IsTwoWitness(c.a, c.d); is != c.want || !ok {
			t.Error("IsTwoWitness", c.a, c.d, is, ok)
		}
	}
	for _, bad := range slices.Concat(notPositive, notTwo) {
		for _, d := range []int{math.MinInt, -1, 0, 1, 2, 3, 20000, math.MaxInt} {
			if is, ok := impl.IsTwoWitness(bad, d); is || ok {
				t.Error("IsTwoWitness", bad, d, is, ok)
			}
		}
	}
}

var threeRows = []struct {
	a     impl.Fraction
	lists [][]int
}{
	{fraction(4, 5), [][]int{{2, 4, 20}, {2, 5, 10}}},
	{fraction(1, 1), [][]int{{2, 3, 6}}},
	{fraction(1, 2), [][]int{{3, 7, 42}, {3, 8, 24}, {3, 9, 18}, {3, 10, 15}, {4, 5, 20}, {4, 6, 12}}},
	{fraction(2, 3), [][]int{{2, 7, 42}, {2, 8, 24}, {2, 9, 18}, {2, 10, 15}, {3, 4, 12}}},
	{fraction(3, 4), [][]int{{2, 5, 20}, {2, 6, 12}, {3, 4, 6}}},
	{fraction(5, 6), [][]int{{2, 4, 12}}},
	{fraction(6, 7), [][]int{{2, 3, 42}}},
	// A denominator is 1, and the fraction is greater than 1.
	{fraction(3, 2), [][]int{{1, 3, 6}}},
	{fraction(7, 5), [][]int{{1, 3, 15}}},
	{fraction(181, 120), [][]int{{1, 2, 120}}},
	// The greatest one of all, and what is greater.
	{fraction(11, 6), [][]int{{1, 2, 3}}},
	{fraction(221, 120), [][]int{}},
	{fraction(2, 1), [][]int{}},
	{fraction(3, 1), [][]int{}},
	{fraction(billion, 1), [][]int{}},
	{fraction(billion-1, 119), [][]int{}},
	// Without the term 1 there would be 2 and 2, 3.
	{fraction(4, 3), [][]int{{1, 4, 12}}},
	// There are none below 1 either.
	{fraction(8, 11), [][]int{}},
	{fraction(119, 120), [][]int{}},
	{fraction(118, 119), [][]int{}},
}

func TestThreeTermsAndFirstThree(t *testing.T) {
	for _, c := range threeRows {
		got, ok := impl.ThreeTerms(c.a)
		checkLists(t, "ThreeTerms", c.a, got, ok, c.lists, true)
		first, ok := impl.FirstThree(c.a)
		if len(c.lists) == 0 {
			checkList(t, "FirstThree", c.a, first, ok, nil, false)
		} else {
			checkList(t, "FirstThree", c.a, first, ok, c.lists[0], true)
		}
	}
	for _, bad := range slices.Concat(notPositive, notThree) {
		got, ok := impl.ThreeTerms(bad)
		checkLists(t, "ThreeTerms", bad, got, ok, nil, false)
		first, ok := impl.FirstThree(bad)
		checkList(t, "FirstThree", bad, first, ok, nil, false)
	}
}

// With more than MaxFound lists there is still a first one. No fraction has just MaxFound lists: those told have up to 955 and the others 1013 and more.
func TestThreeTermsUpToMaxFound(t *testing.T) {
	for _, c := range []struct {
		den, count int
		first      []int
	}{
		{119, 955, []int{120, 14281, 203932680}},
		{88, 945, []int{89, 7833, 61348056}},
		{114, 0, []int{115, 13111, 171885210}},
		{60, 0, []int{61, 3661, 13399260}},
		{90, 0, []int{91, 8191, 67084290}},
		{120, 0, []int{121, 14521, 210844920}},
	} {
		got, ok := impl.ThreeTerms(fraction(1, c.den))
		if len(got) != c.count || ok != (c.count > 0) {
			t.Error("ThreeTerms", c.den, len(got), ok)
		}
		first, ok := impl.FirstThree(fraction(1, c.den))
		checkList(t, "FirstThree", c.den, first, ok, c.first, true)
	}
}

func TestFourOver(t *testing.T) {
	for n, want := range map[int][]int{
		// 4 / 2 is greater than all sums of three terms.
		2: nil,
		3: {1, 4, 12}, 4: {2, 3, 6}, 5: {2, 4, 20}, 6: {2, 7, 42}, 7: {2, 15, 210}, 8: {3, 7, 42}, 17: {5, 30, 510},
		73: {20, 210, 30660}, 97: {25, 810, 392850}, 113: {29, 1102, 124526}, 119: {30, 3571, 12748470}, 120: {31, 931, 865830},
	} {
		got, ok := impl.FourOver(n)
		checkList(t, "FourOver", n, got, ok, want, want != nil)
	}
	for _, bad := range []int{1, 121, 0, -1, -2, -5, -120, 122, 240, 20000, billion, math.MinInt, math.MaxInt} {
		got, ok := impl.FourOver(bad)
		checkList(t, "FourOver", bad, got, ok, nil, false)
	}
}

var fewRows = []struct {
	a       impl.Fraction
	k, most int
	lists   [][]int
}{
	{fraction(1, 1), 3, 60, [][]int{{2, 3, 6}}},
	// The greatest term is met exactly, and passed by one.
	{fraction(1, 1), 3, 6, [][]int{{2, 3, 6}}},
	{fraction(1, 1), 3, 5, [][]int{}},
	{fraction(1, 1), 1, 1, [][]int{{1}}},
	{fraction(1, 1), 1, 60, [][]int{{1}}},
	{fraction(1, 2), 1, 1, [][]int{}},
	{fraction(1, 2), 1, 2, [][]int{{2}}},
	{fraction(1, 60), 1, 60, [][]int{{60}}},
	{fraction(1, 60), 1, 59, [][]int{}},
	{fraction(1, 61), 1, 60, [][]int{}},
	{fraction(3, 2), 2, 2, [][]int{{1, 2}}},
	{fraction(3, 2), 2, 1, [][]int{}},
	{fraction(119, 3540), 2, 60, [][]int{{59, 60}}},
	{fraction(119, 3540), 2, 59, [][]int{}},
	{fraction(1, 1), 4, 60, [][]int{{2, 3, 7, 42}, {2, 3, 8, 24}, {2, 3, 9, 18}, {2, 3, 10, 15}, {2, 4, 5, 20}, {2, 4, 6, 12}}},
	{fraction(1, 1), 4, 42, [][]int{{2, 3, 7, 42}, {2, 3, 8, 24}, {2, 3, 9, 18}, {2, 3, 10, 15}, {2, 4, 5, 20}, {2, 4, 6, 12}}},
	{fraction(1, 1), 4, 23, [][]int{{2, 3, 9, 18}, {2, 3, 10, 15}, {2, 4, 5, 20}, {2, 4, 6, 12}}},
	{fraction(1, 1), 4, 12, [][]int{{2, 4, 6, 12}}},
	{fraction(1, 1), 4, 11, [][]int{}},
	{fraction(1, 4), 3, 60, [][]int{{5, 30, 60}, {5, 36, 45}, {6, 15, 60}, {6, 16, 48}, {6, 18, 36}, {6, 20, 30}, {6, 21, 28}, {7, 12, 42}, {7, 14, 28}, {8, 10, 40}, {8, 12, 24}, {9, 12, 18}, {10, 12, 15}}},
	// The term 1 is there, with fractions of 1 and greater ones.
	{fraction(2, 1), 4, 60, [][]int{{1, 2, 3, 6}}},
	{fraction(2, 1), 5, 60, [][]int{{1, 2, 3, 7, 42}, {1, 2, 3, 8, 24}, {1, 2, 3, 9, 18}, {1, 2, 3, 10, 15}, {1, 2, 4, 5, 20}, {1, 2, 4, 6, 12}}},
	{fraction(2, 1), 3, 60, [][]int{}},
	// The greatest and the least sum of all.
	{fraction(137, 60), 5, 60, [][]int{{1, 2, 3, 4, 5}}},
	{fraction(137, 60), 5, 5, [][]int{{1, 2, 3, 4, 5}}},
	{fraction(137, 60), 5, 4, [][]int{}},
	{fraction(7, 3), 5, 60, [][]int{}},
	{fraction(3, 1), 5, 60, [][]int{}},
	{fraction(billion, 1), 5, 60, [][]int{}},
	// As many terms as there are numbers, and more.
	{fraction(11, 6), 3, 3, [][]int{{1, 2, 3}}},
	{fraction(11, 6), 4, 3, [][]int{}},
	{fraction(3, 2), 5, 1, [][]int{}},
	// The fraction is met before there are enough terms, or left over behind them.
	{fraction(1, 1), 2, 60, [][]int{}},
	{fraction(5, 6), 1, 60, [][]int{}},
	{fraction(8, 11), 4, 60, [][]int{}},
	{fraction(8, 11), 5, 60, [][]int{{2, 11, 12, 33, 44}, {3, 4, 11, 33, 44}}},
	// Dens that no such sum has.
	{fraction(1, billion), 5, 60, [][]int{}},
	{fraction(billion-1, billion), 5, 60, [][]int{}},
	{fraction(billion, billion-1), 5, 60, [][]int{}},
	{fraction(30, 61), 5, 60, [][]int{}},
}

func TestFewTermsAndFirstFewAndCountFew(t *testing.T) {
	for _, c := range fewRows {
		args := []any{c.a, c.k, c.most}
		got, ok := impl.FewTerms(c.a, c.k, c.most)
		checkLists(t, "FewTerms", args, got, ok, c.lists, true)
		first, ok := impl.FirstFew(c.a, c.k, c.most)
		if len(c.lists) == 0 {
			checkList(t, "FirstFew", args, first, ok, nil, false)
		} else {
			checkList(t, "FirstFew", args, first, ok, c.lists[0], true)
		}
		if count, ok := impl.CountFew(c.a, c.k, c.most); count != len(c.lists) || !ok {
			t.Error("CountFew", args, count, ok)
		}
	}
}

// checkNotFew makes all calls for arguments of which one is invalid.
func checkNotFew(t *testing.T, a impl.Fraction, k int, most int) {
	t.Helper()
	args := []any{a, k, most}
	got, ok := impl.FewTerms(a, k, most)
	checkLists(t, "FewTerms", args, got, ok, nil, false)
	first, ok := impl.FirstFew(a, k, most)
	checkList(t, "FirstFew", args, first, ok, nil, false)
	if count, ok := impl.CountFew(a, k, most); count != 0 || ok {
		t.Error("CountFew", args, count, ok)
	}
}

func TestFewTermsThatAreNotTold(t *testing.T) {
	for _, bad := range notPositive {
		for k := 1; k <= 5; k++ {
			for _, most := range []int{1, 6, 60} {
				checkNotFew(t, bad, k, most)
				if fewest, ok := impl.FewestTerms(bad, most); fewest != 0 || ok {
					t.Error("FewestTerms", bad, most, fewest, ok)
				}
			}
			if least, ok := impl.LeastGreatest(bad, k); least != 0 || ok {
				t.Error("LeastGreatest", bad, k, least, ok)
			}
		}
	}
	for _, a := range []impl.Fraction{fraction(1, 1), fraction(1, 2), fraction(2, 3), fraction(2, 1)} {
		for _, bad := range notFewTerms {
			for _, most := range append([]int{1, 6, 60}, notSmall...) {
				checkNotFew(t, a, bad, most)
			}
			if least, ok := impl.LeastGreatest(a, bad); least != 0 || ok {
				t.Error("LeastGreatest", a, bad, least, ok)
			}
		}
		for _, bad := range notSmall {
			for k := 1; k <= 5; k++ {
				checkNotFew(t, a, k, bad)
			}
			if fewest, ok := impl.FewestTerms(a, bad); fewest != 0 || ok {
				t.Error("FewestTerms", a, bad, fewest, ok)
			}
		}
	}
}

// A row with the number 0 is for a call that fails.
func TestLeastGreatest(t *testing.T) {
	for _, c := range []struct {
		a        impl.Fraction
		k, least int
	}{
		{fraction(1, 1), 1, 1},
		{fraction(1, 1), 2, 0},
		{fraction(1, 1), 3, 6},
		{fraction(1, 1), 4, 12},
		{fraction(1, 1), 5, 15},
		{fraction(1, 60), 1, 60},
		{fraction(1, 61), 1, 0},
		{fraction(119, 3540), 2, 60},
		{fraction(2, 3), 1, 0},
		{fraction(2, 3), 2, 6},
		// The least one is not that of the first list.
		{fraction(4, 5), 3, 10},
		{fraction(4, 5), 5, 12},
		{fraction(1, 4), 3, 15},
		{fraction(1, 12), 2, 28},
		{fraction(1, 12), 4, 60},
		{fraction(1, 12), 5, 0},
		{fraction(1, 7), 2, 56},
		{fraction(1, 7), 3, 35},
		{fraction(8, 11), 4, 0},
		{fraction(8, 11), 5, 44},
		{fraction(2, 1), 4, 6},
		{fraction(137, 60), 5, 5},
		{fraction(7, 3), 5, 0},
		{fraction(1, billion), 5, 0},
		{fraction(billion, 1), 1, 0},
	} {
		if least, ok := impl.LeastGreatest(c.a, c.k); least != c.least || ok != (c.least != 0) {
			t.Error("LeastGreatest", c.a, c.k, least, ok)
		}
	}
}

// A row with the number 0 is for a call that fails.
func TestFewestTerms(t *testing.T) {
	for _, c := range []struct {
		a            impl.Fraction
		most, fewest int
	}{
		{fraction(1, 1), 60, 1},
		{fraction(1, 1), 1, 1},
		{fraction(1, 60), 60, 1},
		// Without a single term there may be more of them, or none.
		{fraction(1, 60), 59, 0},
		{fraction(1, 61), 60, 0},
		{fraction(2, 3), 60, 2},
		{fraction(2, 3), 6, 2},
		{fraction(2, 3), 5, 0},
		{fraction(4, 5), 60, 3},
		{fraction(4, 5), 10, 3},
		{fraction(4, 5), 9, 0},
		{fraction(59, 60), 60, 4},
		{fraction(59, 60), 14, 0},
		{fraction(8, 11), 60, 5},
		{fraction(8, 11), 44, 5},
		{fraction(8, 11), 43, 0},
		{fraction(2, 1), 60, 4},
		{fraction(2, 1), 6, 4},
		{fraction(2, 1), 5, 0},
		{fraction(13, 6), 60, 5},
		{fraction(137, 60), 5, 5},
		{fraction(137, 60), 4, 0},
		// With fewer terms the last one has to be greater.
		{fraction(13, 12), 12, 2},
		{fraction(13, 12), 11, 3},
		{fraction(13, 12), 4, 3},
		{fraction(13, 12), 3, 0},
		{fraction(1, 7), 7, 1},
		{fraction(1, 7), 6, 0},
		{fraction(7, 3), 60, 0},
		{fraction(billion, 1), 60, 0},
		{fraction(1, billion), 60, 0},
	} {
		if fewest, ok := impl.FewestTerms(c.a, c.most); fewest != c.fewest || ok != (c.fewest != 0) {
			t.Error("FewestTerms", c.a, c.most, fewest, ok)
		}
	}
}

func TestIsShortest(t *testing.T) {
	for _, c := range []struct {
		list []int
		want bool
	}{
		{[]int{1}, true},
		{[]int{2}, true},
		{[]int{60}, true},
		{[]int{1, 2}, true},
		{[]int{2, 3}, true},
		{[]int{59, 60}, true},
		{[]int{2, 4, 20}, true},
		{[]int{1, 2, 3}, true},
		{[]int{1, 2, 3, 6}, true},
		{[]int{1, 2, 3, 4, 5}, true},
		{[]int{56, 57, 58, 59, 60}, true},
		{[]int{2, 11, 12, 33, 44}, true},
		// One term is enough.
		{[]int{3, 6}, false},
		{[]int{4, 12}, false},
		{[]int{30, 60}, false},
		{[]int{2, 3, 6}, false},
		{[]int{2, 3, 7, 42}, false},
		{[]int{2, 4, 10, 12, 15}, false},
		{[]int{10, 40, 56}, false},
		// Two are, or three, or four.
		{[]int{3, 4, 12}, false},
		{[]int{2, 5, 20}, false},
		{[]int{2, 4, 12}, false},
		{[]int{1, 3, 6}, false},
		{[]int{2, 5, 20, 60}, false},
		{[]int{2, 4, 30, 60}, false},
		{[]int{1, 2, 3, 7, 42}, false},
		{[]int{3, 28, 40, 56, 60}, false},
		// Fewer have a term greater than the last one: 1, 12 and 2, 21 and 2, 60, and 2, 84, which is greater than MaxSmall too.
		{[]int{2, 3, 4}, true},
		{[]int{3, 7, 14}, true},
		{[]int{4, 5, 15}, true},
		{[]int{3, 7, 28}, true},
		// The fewer ones have the same last term.
		{[]int{4, 6, 12}, false},
		{[]int{3, 10, 15}, false},
		{[]int{5, 8, 24, 60}, false},
	} {
		if is, ok := impl.IsShortest(c.list); is != c.want || !ok {
			t.Error("IsShortest", c.list, is, ok)
		}
	}
	bad := append([][]int{
		nil, {}, {61}, {1, 61}, {2, 3, 61}, {61, 62}, {billion}, {2, billion}, {2, 3, 4, 5, 61},
		// There are too many terms, though fewer have their sum.
		{1, 2, 3, 4, 5, 6}, {3, 4, 5, 6, 10, 60}, upTo(10), {2, 3, 7, 43, 1807, 3263443},
	}, notExpansions...)
	for _, list := range bad {
		if is, ok := impl.IsShortest(list); is || ok {
			t.Error("IsShortest", list, is, ok)
		}
	}
}

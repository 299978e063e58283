package tests

import (
	"math"
	"testing"

	"loop.example/g01107/impl"
)

// Guarantee 1, the single fractions of chapter 1, by examples at the ordinary places and at the limits.

const billion, quintillion = 1000000000, 1000000000000000000

func fraction(num int, den int) impl.Fraction {
	return impl.Fraction{Num: num, Den: den}
}

// none is what a call that fails returns for a fraction.
var none = impl.Fraction{}

var notFractions = []impl.Fraction{
	fraction(0, 0), fraction(0, 2), fraction(1, 0), fraction(2, 4), fraction(6, 3), fraction(-1, 2), fraction(1, -2), fraction(-1, -2), fraction(0, -1),
	fraction(billion+1, 1), fraction(1, billion+1), fraction(billion+1, billion), fraction(billion, billion+1), fraction(billion, billion),
	fraction(math.MaxInt, 1), fraction(1, math.MaxInt), fraction(math.MaxInt, math.MaxInt), fraction(math.MaxInt, math.MaxInt-1),
	fraction(math.MinInt, 1), fraction(1, math.MinInt), fraction(math.MinInt, math.MinInt), fraction(math.MinInt, -1),
}

func TestIsFraction(t *testing.T) {
	for _, a := range []impl.Fraction{
		fraction(0, 1), fraction(1, 1), fraction(1, 2), fraction(3, 2), fraction(7, 1), fraction(billion, 1), fraction(1, billion), fraction(billion-1, billion), fraction(billion, billion-1),
	} {
		if !impl.IsFraction(a) {
			t.Error("should be a fraction:", a)
		}
	}
	for _, a := range notFractions {
		if impl.IsFraction(a) {
			t.Error("should be none:", a)
		}
	}
}

func TestMakeFraction(t *testing.T) {
	for _, c := range []struct {
		num, den int
		want     impl.Fraction
		ok       bool
	}{
		{3, 4, fraction(3, 4), true},
		{6, 8, fraction(3, 4), true},
		{8, 4, fraction(2, 1), true},
		{0, 1, fraction(0, 1), true},
		{0, quintillion, fraction(0, 1), true},
		{quintillion, quintillion, fraction(1, 1), true},
		{quintillion, billion, fraction(billion, 1), true},
		{billion, quintillion, fraction(1, billion), true},
		{billion + 1, 1, none, false},
		{1, billion + 1, none, false},
		{quintillion, 1, none, false},
		{1, quintillion, none, false},
		{quintillion - 1, quintillion, none, false},
		{quintillion + 1, quintillion + 1, none, false},
		{quintillion + billion, quintillion, none, false},
		// 10^18 + 1 is 1000001 times 999999000001, so that only the bound of the arguments is passed, by one.
		{quintillion + 1, 999999000001, none, false},
		{999999000001, quintillion + 1, none, false},
		{0, quintillion + 1, none, false},
		{1, 0, none, false},
		{0, 0, none, false},
		{-1, 2, none, false},
		{1, -2, none, false},
		{-1, -2, none, false},
		{math.MaxInt, math.MaxInt, none, false},
		{math.MinInt, math.MinInt, none, false},
		{0, math.MinInt, none, false},
	} {
		if got, ok := impl.MakeFraction(c.num, c.den); got != c.want || ok != c.ok {
			t.Error("MakeFraction", c.num, c.den, got, ok)
		}
	}
}

type pairCase struct {
	a, b, want impl.Fraction
	ok         bool
}

func checkPairs(t *testing.T, name string, call func(a, b impl.Fraction) (impl.Fraction, bool), cases []pairCase) {
	t.Helper()
	for _, c := range cases {
		if got, ok := call(c.a, c.b); got != c.want || ok != c.ok {
			t.Error(name, c.a, c.b, got, ok)
		}
	}
	for _, bad := range notFractions {
		for _, good := range []impl.Fraction{fraction(0, 1), fraction(1, 1), fraction(3, 2)} {
			if got, ok := call(bad, good); got != none || ok {
				t.Error(name, bad, good, got, ok)
			}
			if got, ok := call(good, bad); got != none || ok {
				t.Error(name, good, bad, got, ok)
			}
		}
	}
}

func TestAddFractions(t *testing.T) {
	checkPairs(t, "AddFractions", impl.AddFractions, []pairCase{
		{fraction(1, 2), fraction(1, 6), fraction(2, 3), true},
		{fraction(1, 2), fraction(1, 2), fraction(1, 1), true},
		{fraction(0, 1), fraction(0, 1), fraction(0, 1), true},
		{fraction(0, 1), fraction(5, 7), fraction(5, 7), true},
		{fraction(3, 1), fraction(4, 1), fraction(7, 1), true},
		{fraction(1, billion), fraction(1, billion), fraction(1, billion/2), true},
		{fraction(billion-1, 1), fraction(1, 1), fraction(billion, 1), true},
		{fraction(billion, 1), fraction(1, 1), none, false},
		{fraction(1, 2), fraction(1, billion-1), none, false},
		// The sum on the way is greater than 10^18 above and below.
		{fraction(billion-1, billion), fraction(billion-1, billion), fraction(billion-1, billion/2), true},
	})
}

func TestSubtractFractions(t *testing.T) {
	checkPairs(t, "SubtractFractions", impl.SubtractFractions, []pairCase{
		{fraction(2, 3), fraction(1, 6), fraction(1, 2), true},
		{fraction(7, 1), fraction(3, 1), fraction(4, 1), true},
		{fraction(5, 7), fraction(0, 1), fraction(5, 7), true},
		{fraction(5, 7), fraction(5, 7), fraction(0, 1), true},
		{fraction(0, 1), fraction(0, 1), fraction(0, 1), true},
		{fraction(1, billion), fraction(1, billion), fraction(0, 1), true},
		{fraction(billion, billion-1), fraction(1, billion-1), fraction(1, 1), true},
		{fraction(1, 6), fraction(2, 3), none, false},
		{fraction(0, 1), fraction(1, billion), none, false},
		{fraction(1, 2), fraction(1, billion-1), none, false},
	})
}

func TestMultiplyFractions(t *testing.T) {
	checkPairs(t, "MultiplyFractions", impl.MultiplyFractions, []pairCase{
		{fraction(2, 3), fraction(3, 4), fraction(1, 2), true},
		{fraction(0, 1), fraction(3, 4), fraction(0, 1), true},
		{fraction(6, 1), fraction(1, 3), fraction(2, 1), true},
		{fraction(billion, 1), fraction(1, billion), fraction(1, 1), true},
		{fraction(billion, billion-1), fraction(billion-1, billion), fraction(1, 1), true},
		{fraction(1, billion/2), fraction(1, 2), fraction(1, billion), true},
		{fraction(billion, 1), fraction(2, 1), none, false},
		{fraction(1, billion), fraction(1, 2), none, false},
	})
}

func TestDivideFractions(t *testing.T) {
	checkPairs(t, "DivideFractions", impl.DivideFractions, []pairCase{
		{fraction(1, 2), fraction(3, 4), fraction(2, 3), true},
		{fraction(0, 1), fraction(3, 4), fraction(0, 1), true},
		{fraction(6, 1), fraction(3, 1), fraction(2, 1), true},
		{fraction(billion, 1), fraction(billion, 1), fraction(1, 1), true},
		{fraction(billion-1, billion), fraction(billion-1, billion), fraction(1, 1), true},
		{fraction(1, 2), fraction(billion/2, 1), fraction(1, billion), true},
		{fraction(billion, 1), fraction(1, 2), none, false},
		{fraction(1, billion), fraction(2, 1), none, false},
		{fraction(1, 2), fraction(0, 1), none, false},
		{fraction(0, 1), fraction(0, 1), none, false},
	})
}

func TestCompareFractions(t *testing.T) {
	for _, c := range []struct {
		a, b impl.Fraction
		want int
		ok   bool
	}{
		{fraction(1, 2), fraction(2, 3), -1, true},
		{fraction(2, 3), fraction(1, 2), 1, true},
		{fraction(2, 3), fraction(2, 3), 0, true},
		{fraction(0, 1), fraction(1, billion), -1, true},
		{fraction(billion-1, billion), fraction(billion-2, billion-1), 1, true},
		{fraction(billion, 1), fraction(billion, billion-1), 1, true},
		{fraction(2, 1), fraction(3, 1), -1, true},
		{fraction(2, 4), fraction(1, 2), 0, false},
		{fraction(2, 1), fraction(2, 4), 0, false},
	} {
		if got, ok := impl.CompareFractions(c.a, c.b); got != c.want || ok != c.ok {
			t.Error("CompareFractions", c.a, c.b, got, ok)
		}
	}
	for _, bad := range notFractions {
		if got, ok := impl.CompareFractions(bad, fraction(1, 3)); got != 0 || ok {
			t.Error("CompareFractions", bad, got, ok)
		}
		if got, ok := impl.CompareFractions(fraction(1, 3), bad); got != 0 || ok {
			t.Error("CompareFractions", bad, got, ok)
		}
	}
}

func TestFloorAndCeiling(t *testing.T) {
	for _, c := range []struct {
		a              impl.Fraction
		floor, ceiling int
	}{
		{fraction(0, 1), 0, 0},
		{fraction(1, 2), 0, 1},
		{fraction(1, billion), 0, 1},
		{fraction(billion-1, billion), 0, 1},
		{fraction(1, 1), 1, 1},
		{fraction(7, 3), 2, 3},
		{fraction(billion, billion-1), 1, 2},
		{fraction(billion, 1), billion, billion},
	} {
		if got, ok := impl.FloorOf(c.a); got != c.floor || !ok {
			t.Error("FloorOf", c.a, got, ok)
		}
		if got, ok := impl.CeilingOf(c.a); got != c.ceiling || !ok {
			t.Error("CeilingOf", c.a, got, ok)
		}
	}
	for _, bad := range notFractions {
		if got, ok := impl.FloorOf(bad); got != 0 || ok {
			t.Error("FloorOf", bad, got, ok)
		}
		if got, ok := impl.CeilingOf(bad); got != 0 || ok {
			t.Error("CeilingOf", bad, got, ok)
		}
	}
}

func TestFractionText(t *testing.T) {
	for _, c := range []struct {
		a    impl.Fraction
		text string
	}{
		{fraction(0, 1), "0"},
		{fraction(1, 1), "1"},
		{fraction(12, 1), "12"},
		{fraction(4, 5), "4/5"},
		{fraction(5, 4), "5/4"},
		{fraction(billion, 1), "1000000000"},
		{fraction(1, billion), "1/1000000000"},
		{fraction(billion, billion-1), "1000000000/999999999"},
	} {
		if got, ok := impl.FractionText(c.a); got != c.text || !ok {
			t.Error("FractionText", c.a, got, ok)
		}
		if got, ok := impl.ParseFraction(c.text); got != c.a || !ok {
			t.Error("ParseFraction", c.text, got, ok)
		}
	}
	for _, bad := range notFractions {
		if got, ok := impl.FractionText(bad); got != "" || ok {
			t.Error("FractionText", bad, got, ok)
		}
	}
}

func TestParseFractionFails(t *testing.T) {
	for _, s := range []string{
		"", "/", "1/", "/2", "1//2", "1/2/", "1/2/3", "2/4", "6/3", "3/1", "0/1", "0/2", "1/0", "0/0",
		"00", "01", "01/2", "1/02", "+1", "-1", "-0", "+1/2", "1/+2", "-1/2", "1/-2", "-1/-2",
		" 1", "1 ", "1 /2", "1/ 2", "1/2 ", "1/2\n", "\t1/2", "1\x00", "1_0", "0x1", "1.0", "1e3", "1,0", "a", "½",
		"１", "1/2+1/3", "1000000001", "1/1000000001", "1000000001/1000000000",
		"9223372036854775807", "9223372036854775808", "18446744073709551617", "1/18446744073709551618",
		"100000000000000000000000000000000000000000/3",
	} {
		if got, ok := impl.ParseFraction(s); got != none || ok {
			t.Errorf("ParseFraction %q %v %v", s, got, ok)
		}
	}
}

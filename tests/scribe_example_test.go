package tests

import (
	"math"
	"slices"
	"testing"

	"loop.example/g01107/impl"
)

// Guarantee 7 by examples: every function of chapter 7 at the ordinary places and at the limits.

const million = 1000000

// notFactors are out of 0..MaxFactor, some of them by one.
var notFactors = []int{-1, million + 1, -2, -12, -million, 2 * million, billion, math.MinInt, math.MinInt + 1, math.MaxInt}

// notDivisors are no factors, or 0.
var notDivisors = append([]int{0}, notFactors...)

// notQuotients are pairs of which the first one is no factor, or the second one no divisor, or both.
func notQuotients() [][2]int {
	pairs := [][2]int{}
	for _, bad := range notFactors {
		for _, b := range []int{1, 5, million, 0, -1} {
			pairs = append(pairs, [2]int{bad, b})
		}
	}
	for _, bad := range notDivisors {
		for _, a := range []int{0, 1, 23, million} {
			pairs = append(pairs, [2]int{a, bad})
		}
	}
	return pairs
}

// notOver are numbers beside 3..MaxOdd, or even ones.
var notOver = []int{1, 203, 0, 2, 4, 6, 100, 200, 202, 204, -1, -3, -7, -201, 1001, 2000, 2001, billion, billion + 1, math.MinInt, math.MinInt + 1, math.MaxInt - 1, math.MaxInt}

// allMarks stand for 2^20 - 1, which is greater than MaxFactor.
func allMarks() []int {
	marks := []int{0}
	return append(marks, upTo(19)...)
}

// powersOf2 has the terms 1, 2, 4, .., n of them.
func powersOf2(n int) []int {
	list := []int{}
	for i := range n {
		list = append(list, 1<<i)
	}
	return list
}

func TestScribeLimits(t *testing.T) {
	if impl.MaxFactor != 1000000 || impl.MaxOdd != 201 {
		t.Error(impl.MaxFactor, impl.MaxOdd)
	}
}

func TestMarksOfAndFromMarks(t *testing.T) {
	for _, c := range []struct {
		n     int
		marks []int
	}{
		{0, []int{}},
		{1, []int{0}},
		{2, []int{1}},
		{3, []int{0, 1}},
		{4, []int{2}},
		{11, []int{0, 1, 3}},
		{13, []int{0, 2, 3}},
		{1023, []int{0, 1, 2, 3, 4, 5, 6, 7, 8, 9}},
		{1024, []int{10}},
		{524287, []int{0, 1, 2, 3, 4, 5, 6, 7, 8, 9, 10, 11, 12, 13, 14, 15, 16, 17, 18}},
		{524288, []int{19}},
		{524289, []int{0, 19}},
		{720720, []int{4, 6, 8, 9, 10, 11, 12, 13, 14, 15, 17, 19}},
		{million - 1, []int{0, 1, 2, 3, 4, 5, 9, 14, 16, 17, 18, 19}},
		{million, []int{6, 9, 14, 16, 17, 18, 19}},
	} {
		marks, ok := impl.MarksOf(c.n)
		checkList(t, "MarksOf", c.n, marks, ok, c.marks, true)
		if n, ok := impl.FromMarks(c.marks); n != c.n || !ok {
			t.Error("FromMarks", c.marks, n, ok)
		}
	}
	if n, ok := impl.FromMarks(nil); n != 0 || !ok {
		t.Error("FromMarks", "nil", n, ok)
	}
	for _, bad := range notFactors {
		marks, ok := impl.MarksOf(bad)
		checkList(t, "MarksOf", bad, marks, ok, nil, false)
	}
}

func TestFromMarksFails(t *testing.T) {
	for _, bad := range [][]int{
		// They are out of range, some of them by one.
		{-1}, {20}, {-1, 0}, {0, 20}, {19, 20}, {-2, -1}, {-1, 3, 5}, {0, 1, 21}, {63}, {64}, {0, 64}, {math.MinInt}, {math.MaxInt}, {0, math.MaxInt}, {math.MinInt, 0},
		// They fall.
		{1, 0}, {19, 0}, {3, 1, 0}, {0, 2, 1}, {0, 1, 3, 2}, {2, 0, 1}, {9, 8, 7, 6, 5},
		// They stand twice, or more often.
		{0, 0}, {1, 1}, {18, 18}, {19, 19}, {0, 1, 1}, {0, 0, 1}, {2, 2, 2}, {0, 1, 0}, {3, 3, 3, 3}, slices.Repeat([]int{0}, 20), slices.Repeat([]int{0}, 21), slices.Repeat([]int{1}, 1000),
		// They stand for MaxFactor and one more, and for more than that.
		{0, 6, 9, 14, 16, 17, 18, 19}, {7, 9, 14, 16, 17, 18, 19}, {15, 16, 17, 18, 19}, allMarks(), allMarks()[1:],
		// There are too many.
		append(allMarks(), 20), append([]int{0}, allMarks()...), append(allMarks(), 19), upTo(1000),
	} {
		if n, ok := impl.FromMarks(bad); n != 0 || ok {
			t.Error("FromMarks", bad, n, ok)
		}
	}
}

func TestDoublingsOf(t *testing.T) {
	for _, c := range []struct {
		a, n int
		want []int
	}{
		{13, 4, []int{13, 26, 52, 104}},
		{13, 1, []int{13}},
		{13, 0, []int{}},
		{0, 0, []int{}},
		{0, 3, []int{0, 0, 0}},
		{0, 20, make([]int, 20)},
		{1, 20, powersOf2(20)},
		{1, 19, powersOf2(19)},
		{million, 0, []int{}},
		{million, 2, []int{million, 2 * million}},
		// The numbers may be greater than MaxFactor, and than MaxPart.
		{million, 20, []int{
			1000000, 2000000, 4000000, 8000000, 16000000, 32000000, 64000000, 128000000, 256000000, 512000000,
			1024000000, 2048000000, 4096000000, 8192000000, 16384000000, 32768000000, 65536000000, 131072000000, 262144000000, 524288000000,
		}},
	} {
		got, ok := impl.DoublingsOf(c.a, c.n)
		checkList(t, "DoublingsOf", []int{c.a, c.n}, got, ok, c.want, true)
	}
	for _, bad := range notFactors {
		for _, n := range []int{0, 1, 5, 20} {
			got, ok := impl.DoublingsOf(bad, n)
			checkList(t, "DoublingsOf", []int{bad, n}, got, ok, nil, false)
		}
	}
	for _, bad := range []int{-1, 21, -2, -20, 22, 63, 64, 1000, million, math.MinInt, math.MaxInt} {
		for _, a := range []int{0, 1, 13, million} {
			got, ok := impl.DoublingsOf(a, bad)
			checkList(t, "DoublingsOf", []int{a, bad}, got, ok, nil, false)
		}
	}
}

func TestMultiplyMarks(t *testing.T) {
	for _, c := range []struct {
		a, b    int
		marks   []int
		product int
	}{
		{13, 11, []int{0, 1, 3}, 143},
		{11, 13, []int{0, 2, 3}, 143},
		{0, 0, []int{}, 0},
		{0, 11, []int{0, 1, 3}, 0},
		{13, 0, []int{}, 0},
		{1, 1, []int{0}, 1},
		{7, 1, []int{0}, 7},
		{1, 8, []int{3}, 8},
		{million, 0, []int{}, 0},
		{0, million, []int{6, 9, 14, 16, 17, 18, 19}, 0},
		{million, 1, []int{0}, million},
		{1, million, []int{6, 9, 14, 16, 17, 18, 19}, million},
		{3, 524288, []int{19}, 1572864},
		// The product may be greater than MaxFactor, and than MaxPart.
		{million, million, []int{6, 9, 14, 16, 17, 18, 19}, 1000000000000},
		{999999, 524287, []int{0, 1, 2, 3, 4, 5, 6, 7, 8, 9, 10, 11, 12, 13, 14, 15, 16, 17, 18}, 524286475713},
	} {
		args := []int{c.a, c.b}
		marks, product, ok := impl.MultiplyMarks(c.a, c.b)
		checkList(t, "MultiplyMarks", args, marks, ok, c.marks, true)
		if product != c.product {
			t.Error("MultiplyMarks", args, product)
		}
	}
	for _, bad := range notFactors {
		for _, factor := range []int{0, 1, 13, million, -1, million + 1, math.MinInt, math.MaxInt} {
			for _, args := range [][2]int{{bad, factor}, {factor, bad}} {
				marks, product, ok := impl.MultiplyMarks(args[0], args[1])
				checkList(t, "MultiplyMarks", args, marks, ok, nil, false)
				if product != 0 {
					t.Error("MultiplyMarks", args, product)
				}
			}
		}
	}
}

func TestDivideMarks(t *testing.T) {
	for _, c := range []struct {
		a, b  int
		marks []int
		left  int
	}{
		{23, 5, []int{2}, 3},
		{143, 13, []int{0, 1, 3}, 0},
		{144, 13, []int{0, 1, 3}, 1},
		{155, 13, []int{0, 1, 3}, 12},
		{156, 13, []int{2, 3}, 0},
		{7, 7, []int{0}, 0},
		{8, 7, []int{0}, 1},
		// The quotient is 0.
		{6, 7, []int{}, 6},
		{0, 1, []int{}, 0},
		{0, 7, []int{}, 0},
		{0, million, []int{}, 0},
		{1, million, []int{}, 1},
		{million - 1, million, []int{}, million - 1},
		// The divisors are 1 and MaxFactor.
		{1, 1, []int{0}, 0},
		{11, 1, []int{0, 1, 3}, 0},
		{524288, 1, []int{19}, 0},
		{million, 1, []int{6, 9, 14, 16, 17, 18, 19}, 0},
		{million, million, []int{0}, 0},
		{million, 2, []int{5, 8, 13, 15, 16, 17, 18}, 0},
		{million, 3, []int{0, 2, 4, 9, 10, 12, 16, 18}, 1},
		{million, 500000, []int{1}, 0},
		{million, 500001, []int{0}, 499999},
		{million, 999999, []int{0}, 1},
	} {
		args := []int{c.a, c.b}
		marks, left, ok := impl.DivideMarks(c.a, c.b)
		checkList(t, "DivideMarks", args, marks, ok, c.marks, true)
		if left != c.left {
			t.Error("DivideMarks", args, left)
		}
	}
	for _, bad := range notQuotients() {
		marks, left, ok := impl.DivideMarks(bad[0], bad[1])
		checkList(t, "DivideMarks", bad, marks, ok, nil, false)
		if left != 0 {
			t.Error("DivideMarks", bad, left)
		}
	}
}

// A row without a list is for a call that fails.
func TestQuotientExpansion(t *testing.T) {
	for _, c := range []struct {
		a, b, whole int
		list        []int
	}{
		{17, 6, 2, []int{2, 3}},
		{19, 8, 2, []int{3, 24}},
		{10, 7, 1, []int{3, 11, 231}},
		{100, 13, 7, []int{2, 6, 39}},
		{1000, 179, 5, []int{2, 12, 307, 659436}},
		// The fraction that is left is not in lowest terms at first.
		{20, 8, 2, []int{2}},
		{14, 6, 2, []int{3}},
		{999999, 999999 / 3 * 2, 1, []int{2}},
		// There is no rest.
		{18, 6, 3, []int{}},
		{6, 6, 1, []int{}},
		{7, 1, 7, []int{}},
		{million, 1, million, []int{}},
		{million, million, 1, []int{}},
		// The quotient is 0.
		{0, 1, 0, []int{}},
		{0, 6, 0, []int{}},
		{0, million, 0, []int{}},
		{4, 5, 0, []int{2, 4, 20}},
		{3, 179, 0, []int{60, 10740}},
		{1, million, 0, []int{million}},
		{500001, million, 0, []int{2, million}},
		{million, 999999, 1, []int{999999}},
		{million, 7, 142857, []int{7}},
		// The greedy expansion fails: a term, or the Den of what is left, would be too great.
		{5, 121, 0, nil},
		{126, 121, 0, nil},
		{5, 31, 0, nil},
		{31 * 7, 31 * 6, 1, []int{6}},
		{31*7 + 5, 31, 0, nil},
		{27, 29, 0, nil},
		{999999, million, 0, nil},
		{million, 999983, 0, nil},
	} {
		args := []int{c.a, c.b}
		whole, list, ok := impl.QuotientExpansion(c.a, c.b)
		checkList(t, "QuotientExpansion", args, list, ok, c.list, c.list != nil)
		if whole != c.whole {
			t.Error("QuotientExpansion", args, whole)
		}
	}
	for _, bad := range notQuotients() {
		whole, list, ok := impl.QuotientExpansion(bad[0], bad[1])
		checkList(t, "QuotientExpansion", bad, list, ok, nil, false)
		if whole != 0 {
			t.Error("QuotientExpansion", bad, whole)
		}
	}
}

func TestTwoOverAndTwoOverBase(t *testing.T) {
	for _, c := range []struct {
		n, base int
		list    []int
	}{
		{7, 4, []int{4, 28}},
		{3, 2, []int{2, 6}},
		{5, 3, []int{3, 15}},
		// Other bases have two terms as well, but a greater greatest one: 5, 45; 8, 120 and 9, 45; 13, 325; 11, 231 and 12, 84.
		{9, 6, []int{6, 18}},
		{15, 10, []int{10, 30}},
		{25, 15, []int{15, 75}},
		{21, 14, []int{14, 42}},
		{11, 6, []int{6, 66}},
		{13, 7, []int{7, 91}},
		{49, 28, []int{28, 196}},
		{77, 44, []int{44, 308}},
		{101, 51, []int{51, 5151}},
		{105, 70, []int{70, 210}},
		{121, 66, []int{66, 726}},
		{169, 91, []int{91, 1183}},
		{195, 130, []int{130, 390}},
		{197, 99, []int{99, 19503}},
		{199, 100, []int{100, 19900}},
		{201, 134, []int{134, 402}},
	} {
		got, ok := impl.TwoOver(c.n)
		checkList(t, "TwoOver", c.n, got, ok, c.list, true)
		if base, ok := impl.TwoOverBase(c.n); base != c.base || !ok {
			t.Error("TwoOverBase", c.n, base, ok)
		}
	}
	for _, bad := range notOver {
		got, ok := impl.TwoOver(bad)
		checkList(t, "TwoOver", bad, got, ok, nil, false)
		if base, ok := impl.TwoOverBase(bad); base != 0 || ok {
			t.Error("TwoOverBase", bad, base, ok)
		}
	}
}

// manyDivisors are 25 divisors of 720720, strictly decreasing.
var manyDivisors = []int{360360, 240240, 180180, 144144, 120120, 102960, 90090, 80080, 72072, 65520, 60060, 55440, 51480, 48048, 45045, 40040, 36036, 34320, 32760, 30030, 27720, 25740, 24024, 21840, 20592}

func TestAuxiliariesOfAndFromAuxiliaries(t *testing.T) {
	for _, c := range []struct {
		list    []int
		n       int
		numbers []int
	}{
		{[]int{2, 3, 12}, 12, []int{6, 4, 1}},
		{[]int{2, 3, 12}, 24, []int{12, 8, 2}},
		{[]int{2, 3, 6}, 6, []int{3, 2, 1}},
		{[]int{1}, 1, []int{1}},
		{[]int{1, 2}, 2, []int{2, 1}},
		{[]int{4, 28}, 28, []int{7, 1}},
		{[]int{1}, million, []int{million}},
		{[]int{million}, million, []int{1}},
		{[]int{1, 2, 1000, million}, million, []int{million, million / 2, 1000, 1}},
		{[]int{999999}, 999999, []int{1}},
		{[]int{}, 1, []int{}},
		{[]int{}, 12, []int{}},
		{[]int{}, million, []int{}},
	} {
		numbers, ok := impl.AuxiliariesOf(c.list, c.n)
		checkList(t, "AuxiliariesOf", []any{c.list, c.n}, numbers, ok, c.numbers, true)
		list, ok := impl.FromAuxiliaries(c.numbers, c.n)
		checkList(t, "FromAuxiliaries", []any{c.numbers, c.n}, list, ok, c.list, true)
	}
	for _, n := range []int{1, 12, million} {
		numbers, ok := impl.AuxiliariesOf(nil, n)
		checkList(t, "AuxiliariesOf", []any{"nil", n}, numbers, ok, nil, true)
		list, ok := impl.FromAuxiliaries(nil, n)
		checkList(t, "FromAuxiliaries", []any{"nil", n}, list, ok, nil, true)
	}
}

func TestAuxiliariesUpToMaxTerms(t *testing.T) {
	terms := []int{}
	for _, number := range manyDivisors {
		terms = append(terms, 720720/number)
	}
	for length := 22; length <= 25; length++ {
		for by := 0; by <= 25-length; by++ {
			list, numbers := terms[by:by+length], manyDivisors[by:by+length]
			isTold := length <= 24
			if !isTold {
				list, numbers = nil, nil
			}
			got, ok := impl.AuxiliariesOf(terms[by:by+length], 720720)
			checkList(t, "AuxiliariesOf", terms[by:by+length], got, ok, numbers, isTold)
			got, ok = impl.FromAuxiliaries(manyDivisors[by:by+length], 720720)
			checkList(t, "FromAuxiliaries", manyDivisors[by:by+length], got, ok, list, isTold)
		}
	}
}

func TestAuxiliariesFail(t *testing.T) {
	for _, c := range []struct {
		list []int
		n    int
	}{
		// One is no whole number, however far it stands behind.
		{[]int{2}, 1}, {[]int{2}, 3}, {[]int{2, 3, 12}, 6}, {[]int{2, 3, 12}, 8}, {[]int{2, 3, 12}, 11}, {[]int{5, 6}, 12}, {[]int{7}, 12}, {[]int{24}, 12}, {[]int{13}, 12},
		{[]int{million + 1}, million}, {[]int{billion}, million}, {[]int{1, billion}, 1}, {[]int{3}, million}, {[]int{1, 2, 3}, million},
		// The number is out of range.
		{[]int{1}, 0}, {[]int{1}, -1}, {[]int{1}, million + 1}, {[]int{}, 0}, {[]int{}, -1}, {[]int{}, million + 1}, {nil, math.MinInt}, {nil, math.MaxInt},
		{[]int{2, 3, 12}, -12}, {[]int{2, 3, 12}, 0}, {[]int{2, 3, 12}, 1200000}, {[]int{1}, math.MinInt}, {[]int{2}, math.MinInt}, {[]int{1}, math.MaxInt}, {[]int{million + 1}, million + 1},
	} {
		got, ok := impl.AuxiliariesOf(c.list, c.n)
		checkList(t, "AuxiliariesOf", []any{c.list, c.n}, got, ok, nil, false)
	}
	for _, bad := range append([][]int{{6, 4, 1}, {12, 3, 2}, {3, 3}, {1, 1}, {-2, 1}}, notExpansions...) {
		for _, n := range []int{1, 2, 12, 720720, million} {
			got, ok := impl.AuxiliariesOf(bad, n)
			checkList(t, "AuxiliariesOf", []any{bad, n}, got, ok, nil, false)
		}
	}
	for _, c := range []struct {
		numbers []int
		n       int
	}{
		// They do not fall, or stand twice.
		{[]int{1, 4, 6}, 12}, {[]int{4, 6}, 12}, {[]int{6, 1, 4}, 12}, {[]int{4, 6, 1}, 12}, {[]int{1, million}, million},
		{[]int{6, 6}, 12}, {[]int{1, 1}, 1}, {[]int{6, 4, 4}, 12}, {[]int{6, 6, 4}, 12}, {[]int{6, 4, 6}, 12},
		// They do not divide the number, however far they stand behind.
		{[]int{5}, 12}, {[]int{7, 1}, 12}, {[]int{6, 5}, 12}, {[]int{6, 5, 1}, 12}, {[]int{24}, 12}, {[]int{13}, 12}, {[]int{12, 8}, 12}, {[]int{2}, 1}, {[]int{million + 1}, million}, {[]int{3}, million}, {[]int{math.MaxInt}, 12},
		// They are 0, or less.
		{[]int{0}, 12}, {[]int{6, 0}, 12}, {[]int{-1}, 12}, {[]int{-6}, 12}, {[]int{6, -1}, 12}, {[]int{1, 0, -1}, 12}, {[]int{math.MinInt}, 12}, {[]int{math.MinInt}, 1}, {[]int{0}, 1},
		// There are too many, and none of them is wrong by itself.
		{manyDivisors, 720720}, {slices.Repeat([]int{1}, 25), 1}, {slices.Repeat([]int{1}, 1000), 1},
		// The number is out of range.
		{[]int{1}, 0}, {[]int{1}, -1}, {[]int{1}, million + 1}, {[]int{million + 1}, million + 1}, {[]int{}, 0}, {[]int{}, -1}, {[]int{}, million + 1}, {nil, math.MinInt}, {nil, math.MaxInt},
		{[]int{0}, 0}, {[]int{6, 4, 1}, -12}, {[]int{-6, -4, -1}, -12}, {[]int{1}, math.MaxInt}, {[]int{-1}, math.MinInt},
	} {
		got, ok := impl.FromAuxiliaries(c.numbers, c.n)
		checkList(t, "FromAuxiliaries", []any{c.numbers, c.n}, got, ok, nil, false)
	}
}

// completionRow has no terms for a call that fails.
type completionRow struct {
	a     impl.Fraction
	list  []int
	n     int
	terms []int
}

var completionRows = []completionRow{
	{fraction(1, 1), []int{3}, 12, []int{2, 6}},
	{fraction(1, 1), nil, 1, []int{1}},
	{fraction(5, 6), []int{}, 12, []int{2, 3}},
	{fraction(5, 6), []int{}, 6, []int{2, 3}},
	{fraction(1, 1), []int{4, 28}, 28, []int{2, 7, 14}},
	{fraction(2, 1), []int{1}, 6, nil},
	{fraction(2, 1), []int{4, 6}, 12, []int{1, 2, 12}},
	// By one term.
	{fraction(1, 1), []int{2, 3}, 6, []int{6}},
	{fraction(1, 1), []int{2, 3}, 12, []int{6}},
	{fraction(4, 5), []int{2, 4}, 20, []int{20}},
	{fraction(1, 2000), nil, 2000, []int{2000}},
	{fraction(1, 1), []int{2, 3, 7}, 42, []int{42}},
	// By the rest 0, for which there are no divisors.
	{fraction(1, 1), []int{2, 3, 6}, 12, []int{}},
	{fraction(1, 1), []int{2, 3, 6}, 1, []int{}},
	{fraction(1, 1), []int{2, 3, 6}, 2000, []int{}},
	{fraction(1, 1), []int{1}, 7, []int{}},
	{fraction(0, 1), nil, 1, []int{}},
	{fraction(0, 1), []int{}, 1999, []int{}},
	{fraction(24, 25), fullList(24), 1, []int{}},
	{fraction(1, billion), []int{billion}, 1, []int{}},
	// There are no such divisors.
	{fraction(2, 5), nil, 10, nil},
	{fraction(9, 10), nil, 10, nil},
	{fraction(9, 10), []int{2}, 10, nil},
	{fraction(2, 1), nil, 1, nil},
	{fraction(19, 10), nil, 10, nil},
	{fraction(2, 7), nil, 7, nil},
	// With a number that is greater they are there.
	{fraction(2, 5), nil, 20, []int{4, 10, 20}},
	{fraction(2, 7), nil, 28, []int{4, 28}},
	// A term is there already, the first one or another one.
	{fraction(1, 1), []int{2}, 12, nil},
	{fraction(1, 1), []int{2}, 2, nil},
	{fraction(1, 1), []int{4}, 12, nil},
	{fraction(5, 6), []int{6}, 12, nil},
	{fraction(3, 2), []int{3, 4, 5}, 60, nil},
	{fraction(1, 1), []int{6}, 12, []int{2, 3}},
	// It is no whole number.
	{fraction(1, 1), []int{7}, 12, nil},
	{fraction(1, 1), []int{2, 3}, 5, nil},
	{fraction(1, 1), []int{2, 3}, 7, nil},
	{fraction(1, 2001), nil, 2000, nil},
	{fraction(1, billion), nil, 2000, nil},
	{fraction(1, 4), nil, 2, nil},
	// The sum of the list is greater.
	{fraction(1, 1), []int{1, 2}, 12, nil},
	{fraction(1, 3), []int{2}, 6, nil},
	{fraction(0, 1), []int{billion}, 1, nil},
	// It is 100000, and 100001, and more: no number has divisors for these.
	{fraction(100000, 1), nil, 1, nil},
	{fraction(100001, 1), nil, 1, nil},
	{fraction(50, 1), nil, 2000, nil},
	{fraction(100001, 2000), nil, 2000, nil},
	{fraction(100001, 1), []int{1}, 1, nil},
	{fraction(100002, 1), []int{1}, 1, nil},
	{fraction(billion, 1), nil, 1, nil},
	{fraction(billion, 1), nil, 2000, nil},
	{fraction(billion, 1999), nil, 1999, nil},
	// There are 24 terms, and 25: the second list is no expansion.
	{fraction(479, 144), nil, 720, []int{1, 2, 3, 4, 5, 6, 8, 9, 10, 12, 15, 16, 18, 20, 24, 30, 36, 40, 45, 48, 60, 72, 80, 120}},
	{fraction(599, 180), nil, 720, nil},
	{fraction(124, 35), nil, 1680, nil},
	// Together with the list there may be more.
	{fraction(1, 1), fullList(24), 25, []int{25}},
	{fraction(1, 1), fullList(24), 300, []int{25}},
	{fraction(1, 1), fullList(24), 500, []int{25}},
}

func TestCompletionOf(t *testing.T) {
	for _, c := range completionRows {
		got, ok := impl.CompletionOf(c.a, c.list, c.n)
		checkList(t, "CompletionOf", []any{c.a, c.list, c.n}, got, ok, c.terms, c.terms != nil)
	}
}

func TestCompletionOfInvalidArguments(t *testing.T) {
	check := func(a impl.Fraction, list []int, n int) {
		t.Helper()
		got, ok := impl.CompletionOf(a, list, n)
		checkList(t, "CompletionOf", []any{a, list, n}, got, ok, nil, false)
	}
	lists := [][]int{nil, {3}, {2, 3, 6}, {billion}}
	for _, bad := range notFractions {
		for _, list := range lists {
			for _, n := range []int{1, 2, 12, 2000} {
				check(bad, list, n)
			}
		}
	}
	for _, bad := range notExpansions {
		for _, a := range []impl.Fraction{fraction(0, 1), fraction(1, 1), fraction(5, 6), fraction(1, 20000), fraction(3, 1), fraction(billion, 1)} {
			for _, n := range []int{1, 2, 12, 2000} {
				check(a, bad, n)
			}
		}
	}
	for _, bad := range notNumbers {
		for _, list := range lists {
			for _, a := range []impl.Fraction{fraction(0, 1), fraction(1, 1), fraction(4, 3), fraction(1, 2001), fraction(1, billion)} {
				check(a, list, bad)
			}
		}
	}
	check(fraction(2, 4), []int{2, 2}, 0)
}

// A row without a list is for a call that fails.
func TestHalvesOf(t *testing.T) {
	for _, c := range []struct{ list, want []int }{
		{[]int{2, 3}, []int{4, 6}},
		{[]int{2, 3, 6}, []int{4, 6, 12}},
		{[]int{1, 2, 4}, []int{2, 4, 8}},
		{[]int{1}, []int{2}},
		{nil, []int{}},
		{[]int{}, []int{}},
		{powersOf2(24), append(powersOf2(24)[1:], 1<<24)},
		// A term is MaxPart exactly, and greater, by as little as it may be.
		{[]int{billion / 2}, []int{billion}},
		{[]int{2, billion / 2}, []int{4, billion}},
		{[]int{billion/2 - 1}, []int{billion - 2}},
		{[]int{billion/2 + 1}, nil},
		{[]int{2, billion/2 + 1}, nil},
		{[]int{billion}, nil},
		// The sum has a Den that is twice as great.
		{[]int{512, 1953125}, nil},
		{[]int{1, billion - 1}, nil},
	} {
		got, ok := impl.HalvesOf(c.list)
		checkList(t, "HalvesOf", c.list, got, ok, c.want, c.want != nil)
	}
	for _, bad := range notExpansions {
		got, ok := impl.HalvesOf(bad)
		checkList(t, "HalvesOf", bad, got, ok, nil, false)
	}
}

// A row without a list is for a call that fails.
func TestTwoThirdsOf(t *testing.T) {
	for _, c := range []struct{ list, want []int }{
		{[]int{2}, []int{4, 12}},
		{[]int{1}, []int{2, 6}},
		{[]int{5}, []int{10, 30}},
		{[]int{2, 4}, []int{4, 8, 12, 24}},
		{[]int{2, 5}, []int{4, 10, 12, 30}},
		{[]int{3, 4, 5}, []int{6, 8, 10, 18, 24, 30}},
		{nil, []int{}},
		{[]int{}, []int{}},
		// Two terms are equal, side by side in the list or not.
		{[]int{1, 3}, nil},
		{[]int{2, 6}, nil},
		{[]int{2, 3, 6}, nil},
		{[]int{1, 2, 3}, nil},
		{[]int{4, 5, 12}, nil},
		{[]int{7, 8, 9, 21}, nil},
		// There are 24 terms, and 26.
		{powersOf2(12), []int{2, 4, 6, 8, 12, 16, 24, 32, 48, 64, 96, 128, 192, 256, 384, 512, 768, 1024, 1536, 2048, 3072, 4096, 6144, 12288}},
		{powersOf2(13), nil},
		// A term is MaxPart nearly, and greater.
		{[]int{166666666}, []int{333333332, 999999996}},
		{[]int{166666667}, nil},
		{[]int{billion / 2}, nil},
		{[]int{billion}, nil},
	} {
		got, ok := impl.TwoThirdsOf(c.list)
		checkList(t, "TwoThirdsOf", c.list, got, ok, c.want, c.want != nil)
	}
	for _, bad := range notExpansions {
		got, ok := impl.TwoThirdsOf(bad)
		checkList(t, "TwoThirdsOf", bad, got, ok, nil, false)
	}
}

// A row without terms is for a call that fails.
func TestProductOf(t *testing.T) {
	for _, c := range []struct{ a, b, want []int }{
		{[]int{2, 3}, []int{5, 7}, []int{10, 14, 15, 21}},
		{[]int{2}, []int{3}, []int{6}},
		{[]int{1}, []int{2, 3, 6}, []int{2, 3, 6}},
		{[]int{1}, []int{1}, []int{1}},
		{[]int{1, 2}, []int{1, 3}, []int{1, 2, 3, 6}},
		{[]int{3, 5}, []int{3, 4}, []int{9, 12, 15, 20}},
		{[]int{2}, []int{2, 6}, []int{4, 12}},
		// One is empty, or both are.
		{nil, nil, []int{}},
		{[]int{}, []int{2, 3}, []int{}},
		{[]int{2, 3}, nil, []int{}},
		{[]int{}, fullList(24), []int{}},
		{[]int{billion}, []int{}, []int{}},
		// Two terms are equal.
		{[]int{1, 2}, []int{1, 2}, nil},
		{[]int{2, 3}, []int{4, 6}, nil},
		{[]int{2, 3}, []int{2, 3}, nil},
		{[]int{1, 2, 3}, []int{5, 7, 15}, nil},
		{[]int{2, 5, 20}, []int{3, 7, 12, 30}, nil},
		// There are 24 terms, 25 and many more.
		{[]int{1}, fullList(24), fullList(24)},
		{fullList(24), []int{1}, fullList(24)},
		{[]int{1, 32}, powersOf2(5), powersOf2(10)},
		{[]int{1, 64, 4096, 262144}, powersOf2(6), powersOf2(24)},
		{powersOf2(6), []int{1, 64, 4096, 262144}, powersOf2(24)},
		{powersOf2(5), []int{1, 32, 1024, 32768, 1048576}, nil},
		{[]int{1, 16777216}, powersOf2(24), nil},
		{[]int{1, 4096, 16777216}, powersOf2(12), nil},
		{powersOf2(24), powersOf2(24), nil},
		// A term is MaxPart exactly, and greater.
		{[]int{1000}, []int{million}, []int{billion}},
		{[]int{1}, []int{billion}, []int{billion}},
		{[]int{2, 1000}, []int{million}, []int{2 * million, billion}},
		{[]int{31622}, []int{31623}, []int{999982506}},
		{[]int{31623}, []int{31623}, nil},
		{[]int{1000}, []int{million + 1}, nil},
		{[]int{2, 1001}, []int{million}, nil},
		{[]int{2}, []int{billion}, nil},
		{[]int{billion}, []int{billion}, nil},
		{[]int{1, billion}, []int{billion}, nil},
		// The sums are fractions, but not their product: its Den is 2 * 10^9.
		{[]int{2}, []int{512, 1953125}, nil},
		{[]int{512, 1953125}, []int{1, 2}, nil},
	} {
		args := [][]int{c.a, c.b}
		got, ok := impl.ProductOf(c.a, c.b)
		checkList(t, "ProductOf", args, got, ok, c.want, c.want != nil)
		got, ok = impl.ProductOf(c.b, c.a)
		checkList(t, "ProductOf", args, got, ok, c.want, c.want != nil)
	}
	for _, bad := range notExpansions {
		for _, list := range [][]int{nil, {1}, {2, 3}, {billion}, bad} {
			got, ok := impl.ProductOf(bad, list)
			checkList(t, "ProductOf", [][]int{bad, list}, got, ok, nil, false)
			got, ok = impl.ProductOf(list, bad)
			checkList(t, "ProductOf", [][]int{list, bad}, got, ok, nil, false)
		}
	}
}

// A row without a list is for a call that fails.
func TestSharesOf(t *testing.T) {
	for _, c := range []struct {
		loaves, people int
		want           []int
	}{
		{6, 10, []int{2, 10}},
		{9, 10, []int{2, 3, 15}},
		{2, 3, []int{2, 6}},
		{4, 6, []int{2, 6}},
		{4, 5, []int{2, 4, 20}},
		{500, 1000, []int{2}},
		{333, 999, []int{3}},
		// There are no loaves.
		{0, 1, []int{}},
		{0, 7, []int{}},
		{0, 1000, []int{}},
		// There are as many as people.
		{1, 1, []int{1}},
		{10, 10, []int{1}},
		{1000, 1000, []int{1}},
		{1, 1000, []int{1000}},
		{3, 1000, []int{334, 167000}},
		{1, 999, []int{999}},
		// The greedy expansion fails.
		{27, 29, nil},
		{5, 31, nil},
		{5, 121, nil},
		{10, 242, nil},
		{4, 41, nil},
		// One is out of range.
		{2, 1, nil},
		{11, 10, nil},
		{1001, 1000, nil},
		{2000, 1000, nil},
		{1, 1001, nil},
		{0, 1001, nil},
		{1001, 1001, nil},
		{500, 2000, nil},
		{0, 0, nil},
		{1, 0, nil},
		{-1, 0, nil},
		{-1, 1, nil},
		{-1, 10, nil},
		{-5, 1000, nil},
		{0, -1, nil},
		{-2, -1, nil},
		{-1, -1, nil},
		{-6, -10, nil},
		{1, billion, nil},
		{math.MinInt, 1, nil},
		{math.MinInt, math.MinInt, nil},
		{0, math.MinInt, nil},
		{1, math.MaxInt, nil},
		{math.MaxInt, math.MaxInt, nil},
		{math.MaxInt, 1000, nil},
	} {
		got, ok := impl.SharesOf(c.loaves, c.people)
		checkList(t, "SharesOf", []int{c.loaves, c.people}, got, ok, c.want, c.want != nil)
	}
}

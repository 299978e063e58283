package tests

import (
	"math"
	"slices"
	"testing"

	"loop.example/g01107/impl"
)

// Guarantee 6 by examples: every function of chapter 6 at the ordinary places and at the limits.

// notNear are no near fractions: no fractions, or with too great a Den, or less than 1 / 4, or greater than 1, some of them by little.
var notNear = append([]impl.Fraction{
	fraction(0, 1), fraction(2, 9), fraction(1, 5), fraction(1, 6), fraction(1, 12), fraction(13, 12), fraction(12, 11), fraction(3, 2), fraction(2, 1), fraction(4, 1), fraction(billion, 1),
	fraction(4, 13), fraction(12, 13), fraction(5, 14), fraction(3, 13), fraction(14, 13), fraction(249999999, 999999997), fraction(250000001, billion), fraction(billion-1, billion), fraction(1, billion),
	fraction(2, 2), fraction(12, 12), fraction(3, 12), fraction(2, 8), fraction(6, 12), fraction(-1, -4), fraction(4, 4),
}, notFractions...)

// notFew are numbers k for no near fraction at all, some of them by one.
var notFew = []int{0, 5, -1, -3, 6, 24, billion, math.MinInt, math.MaxInt}

// notRepeated are no repeated lists.
var notRepeated = [][]int{
	{0}, {-1}, {0, 0}, {-2, 2}, {0, 2}, {3, 2}, {2, 2, 1}, {2, 3, 3, 2}, {2, 6, 3},
	{billion + 1}, {2, billion + 1}, {2, 2, billion + 1}, {math.MaxInt}, {math.MinInt}, {1, math.MaxInt}, {math.MinInt, math.MaxInt}, {math.MaxInt, math.MaxInt}, {math.MinInt, math.MinInt},
	// Sums that are no fractions: their Num is 10^9 + 1, or their Den is, or both are much greater.
	{1, billion}, {2, 2, billion}, {2, 2, 999999999, 999999999}, {1001, 999001}, {999999998, 999999999}, {999999998, 999999998, 999999999},
	// The sum of all is 1 / 20000, but that of the first two is no fraction.
	{30001, 60000, 900030000},
	// There are too many numbers, though their sum is a fraction.
	slices.Repeat([]int{1}, 25), slices.Repeat([]int{25}, 25), twos(25), twos(300), fullList(25), append(fullList(23), billion, billion),
}

func TestNearLimits(t *testing.T) {
	if impl.MaxNearDen != 12 || impl.MaxFew != 4 {
		t.Error(impl.MaxNearDen, impl.MaxFew)
	}
}

func TestIsRepeatedAndRepeatedSum(t *testing.T) {
	checkListSums(t, "repeated list", impl.IsRepeated, impl.RepeatedSum, []listSum{
		{nil, fraction(0, 1)},
		{[]int{}, fraction(0, 1)},
		{[]int{1}, fraction(1, 1)},
		{[]int{7}, fraction(1, 7)},
		{[]int{billion}, fraction(1, billion)},
		{[]int{2, 3, 6}, fraction(1, 1)},
		// Numbers stand twice or more.
		{[]int{1, 1}, fraction(2, 1)},
		{[]int{2, 4, 4}, fraction(1, 1)},
		{[]int{3, 3, 3}, fraction(1, 1)},
		{[]int{3, 3, 5}, fraction(13, 15)},
		{[]int{2, 5, 5, 5, 10}, fraction(6, 5)},
		{[]int{billion, billion}, fraction(1, billion/2)},
		{slices.Repeat([]int{billion}, 24), fraction(3, billion/8)},
		{slices.Repeat([]int{1}, 24), fraction(24, 1)},
		{slices.Repeat([]int{24}, 24), fraction(1, 1)},
		{twos(24), fraction(12, 1)},
		{fullList(24), fraction(24, 25)},
		// The sums have a Den and a Num of just MaxPart.
		{[]int{512, 1953125}, fraction(1953637, billion)},
		{[]int{1, billion - 1}, fraction(billion, billion-1)},
		{[]int{2, 2, billion - 1}, fraction(billion, billion-1)},
	}, notRepeated)
}

// The lists of NearestBelow have no number twice, and are those of NearestDifferent, too; those of GreedyBelow are others where greedy is given.
var belowRows = []struct {
	a            impl.Fraction
	k            int
	list, greedy []int
	gap          impl.Fraction
}{
	{fraction(1, 1), 1, []int{2}, nil, fraction(1, 2)},
	{fraction(1, 1), 2, []int{2, 3}, nil, fraction(1, 6)},
	{fraction(1, 1), 3, []int{2, 3, 7}, nil, fraction(1, 42)},
	{fraction(1, 1), 4, []int{2, 3, 7, 43}, nil, fraction(1, 1806)},
	{fraction(1, 4), 1, []int{5}, nil, fraction(1, 20)},
	{fraction(1, 4), 2, []int{5, 21}, nil, fraction(1, 420)},
	{fraction(1, 4), 3, []int{5, 21, 421}, nil, fraction(1, 176820)},
	{fraction(1, 2), 3, []int{3, 7, 43}, nil, fraction(1, 1806)},
	{fraction(1, 3), 3, []int{4, 13, 157}, nil, fraction(1, 24492)},
	{fraction(3, 11), 1, []int{4}, nil, fraction(1, 44)},
	{fraction(3, 11), 3, []int{4, 45, 1981}, nil, fraction(1, 3922380)},
	{fraction(11, 12), 1, []int{2}, nil, fraction(5, 12)},
	{fraction(11, 12), 2, []int{2, 3}, nil, fraction(1, 12)},
	{fraction(11, 12), 3, []int{2, 3, 13}, nil, fraction(1, 156)},
	{fraction(5, 12), 2, []int{3, 13}, nil, fraction(1, 156)},
	{fraction(2, 3), 2, []int{2, 7}, nil, fraction(1, 42)},
	{fraction(3, 7), 3, []int{3, 11, 232}, nil, fraction(1, 53592)},
	{fraction(10, 11), 3, []int{2, 3, 14}, nil, fraction(1, 231)},
	// The greatest sum has another list, too: 3, 3 and 3, 3, 31.
	{fraction(7, 10), 2, []int{2, 6}, nil, fraction(1, 30)},
	{fraction(7, 10), 3, []int{2, 6, 31}, nil, fraction(1, 930)},
	{fraction(5, 11), 1, []int{3}, nil, fraction(4, 33)},
	{fraction(5, 11), 2, []int{4, 5}, []int{3, 9}, fraction(1, 220)},
	{fraction(5, 11), 3, []int{4, 5, 221}, []int{3, 9, 100}, fraction(1, 48620)},
}

func TestNearestBelowAndNearestDifferentAndGapBelowAndGreedyBelow(t *testing.T) {
	for _, c := range belowRows {
		args := []any{c.a, c.k}
		got, ok := impl.NearestBelow(c.a, c.k)
		checkList(t, "NearestBelow", args, got, ok, c.list, true)
		got, ok = impl.NearestDifferent(c.a, c.k)
		checkList(t, "NearestDifferent", args, got, ok, c.list, true)
		if gap, ok := impl.GapBelow(c.a, c.k); gap != c.gap || !ok {
			t.Error("GapBelow", args, gap, ok)
		}
		greedy := c.greedy
		if greedy == nil {
			greedy = c.list
		}
		got, ok = impl.GreedyBelow(c.a, c.k)
		checkList(t, "GreedyBelow", args, got, ok, greedy, true)
	}
}

// Nothing comes nearer to 1 than Sylvester's numbers, and nothing is left but their gaps.
func TestBelowOneAreSylvesters(t *testing.T) {
	sylvester := []int{}
	for k := 1; k <= 4; k++ {
		d, _ := impl.SylvesterTerm(k - 1)
		sylvester = append(sylvester, d)
		for name, call := range map[string]func(impl.Fraction, int) ([]int, bool){
			"NearestBelow": impl.NearestBelow, "NearestDifferent": impl.NearestDifferent, "GreedyBelow": impl.GreedyBelow,
		} {
			got, ok := call(fraction(1, 1), k)
			checkList(t, name, k, got, ok, sylvester, true)
		}
		want, _ := impl.SylvesterGap(k)
		if gap, ok := impl.GapBelow(fraction(1, 1), k); gap != want || !ok {
			t.Error("GapBelow", k, gap, ok)
		}
	}
}

// checkNotNear makes all calls for a and k of which one is invalid.
func checkNotNear(t *testing.T, a impl.Fraction, k int) {
	t.Helper()
	args := []any{a, k}
	for name, call := range map[string]func(impl.Fraction, int) ([]int, bool){
		"NearestBelow": impl.NearestBelow, "NearestDifferent": impl.NearestDifferent, "GreedyBelow": impl.GreedyBelow,
	} {
		got, ok := call(a, k)
		checkList(t, name, args, got, ok, nil, false)
	}
	if gap, ok := impl.GapBelow(a, k); gap != none || ok {
		t.Error("GapBelow", args, gap, ok)
	}
	for _, most := range []int{1, 3, 60} {
		got, ok := impl.LeastAbove(a, k, most)
		checkList(t, "LeastAbove", []any{a, k, most}, got, ok, nil, false)
	}
}

func TestSumsThatAreNotNear(t *testing.T) {
	for _, bad := range notNear {
		for k := -1; k <= 5; k++ {
			checkNotNear(t, bad, k)
		}
	}
	for _, bad := range notFew {
		for _, a := range []impl.Fraction{fraction(1, 1), fraction(1, 4), fraction(1, 2), fraction(11, 12), fraction(5, 11)} {
			checkNotNear(t, a, bad)
		}
	}
	// Four numbers are asked for below and above 1 alone.
	for den := 2; den <= 12; den++ {
		for num := 1; num < den; num++ {
			checkNotNear(t, fraction(num, den), 4)
		}
	}
}

// A row without a list is for a call that fails.
func TestLeastAbove(t *testing.T) {
	for _, c := range []struct {
		a       impl.Fraction
		k, most int
		list    []int
	}{
		{fraction(1, 1), 2, 60, []int{1, 60}},
		{fraction(1, 1), 3, 60, []int{2, 2, 60}},
		{fraction(1, 1), 4, 60, []int{2, 3, 7, 41}},
		// The greatest number is met exactly, and passed by one.
		{fraction(1, 1), 4, 41, []int{2, 3, 7, 41}},
		{fraction(1, 1), 4, 40, []int{2, 3, 11, 13}},
		{fraction(1, 1), 3, 59, []int{2, 2, 59}},
		{fraction(3, 4), 3, 19, []int{2, 5, 19}},
		{fraction(3, 4), 3, 18, []int{2, 7, 9}},
		{fraction(8, 11), 3, 36, []int{2, 5, 36}},
		{fraction(8, 11), 3, 35, []int{2, 5, 35}},
		{fraction(1, 4), 1, 60, []int{3}},
		{fraction(1, 4), 1, 3, []int{3}},
		{fraction(1, 4), 1, 2, []int{2}},
		{fraction(1, 4), 2, 60, []int{5, 19}},
		{fraction(1, 4), 3, 60, []int{5, 39, 41}},
		{fraction(1, 4), 3, 12, []int{11, 12, 12}},
		{fraction(1, 4), 3, 11, []int{11, 11, 11}},
		{fraction(11, 12), 3, 60, []int{2, 3, 11}},
		{fraction(11, 12), 1, 60, []int{1}},
		{fraction(11, 12), 2, 60, []int{2, 2}},
		{fraction(5, 6), 2, 60, []int{2, 2}},
		{fraction(1, 2), 2, 60, []int{2, 60}},
		{fraction(4, 11), 3, 60, []int{5, 7, 48}},
		{fraction(2, 3), 2, 2, []int{2, 2}},
		// The least sum has another list, too: 3, 3 and 4, 4 and 4, 6 and 3, 4.
		{fraction(3, 5), 2, 6, []int{2, 6}},
		{fraction(5, 11), 2, 6, []int{3, 6}},
		{fraction(2, 5), 2, 12, []int{3, 12}},
		{fraction(4, 7), 2, 12, []int{2, 12}},
		// It has two others: 3, 3, 6 and 3, 4, 4; 2, 4, 6 and 3, 3, 4; 5, 6, 12 and 5, 8, 8.
		{fraction(4, 5), 3, 6, []int{2, 6, 6}},
		{fraction(9, 10), 3, 12, []int{2, 3, 12}},
		{fraction(4, 9), 3, 12, []int{4, 10, 10}},
		// There is nothing less, and it is more than enough.
		{fraction(1, 4), 1, 1, []int{1}},
		{fraction(1, 4), 3, 1, []int{1, 1, 1}},
		{fraction(1, 4), 3, 2, []int{2, 2, 2}},
		{fraction(1, 1), 4, 1, []int{1, 1, 1, 1}},
		{fraction(1, 1), 4, 3, []int{3, 3, 3, 3}},
		{fraction(1, 1), 2, 1, []int{1, 1}},
		// No unit fraction is greater than 1.
		{fraction(1, 1), 1, 60, nil},
		{fraction(1, 1), 1, 2, nil},
		{fraction(1, 1), 1, 1, nil},
	} {
		got, ok := impl.LeastAbove(c.a, c.k, c.most)
		checkList(t, "LeastAbove", []any{c.a, c.k, c.most}, got, ok, c.list, c.list != nil)
	}
	for _, bad := range []int{0, 61, -1, -60, 62, 100, billion, math.MinInt, math.MaxInt} {
		for k := 1; k <= 4; k++ {
			for _, a := range []impl.Fraction{fraction(1, 1), fraction(1, 4), fraction(1, 2), fraction(5, 11)} {
				got, ok := impl.LeastAbove(a, k, bad)
				checkList(t, "LeastAbove", []any{a, k, bad}, got, ok, nil, false)
			}
		}
	}
}

func TestOneListsAndOneDifferent(t *testing.T) {
	for _, c := range []struct {
		k              int
		all, different [][]int
	}{
		{1, [][]int{{1}}, [][]int{{1}}},
		{2, [][]int{{2, 2}}, [][]int{}},
		{3, [][]int{{2, 3, 6}, {2, 4, 4}, {3, 3, 3}}, [][]int{{2, 3, 6}}},
		{4, [][]int{
			{2, 3, 7, 42}, {2, 3, 8, 24}, {2, 3, 9, 18}, {2, 3, 10, 15}, {2, 3, 12, 12}, {2, 4, 5, 20}, {2, 4, 6, 12}, {2, 4, 8, 8},
			{2, 5, 5, 10}, {2, 6, 6, 6}, {3, 3, 4, 12}, {3, 3, 6, 6}, {3, 4, 4, 6}, {4, 4, 4, 4},
		}, [][]int{{2, 3, 7, 42}, {2, 3, 8, 24}, {2, 3, 9, 18}, {2, 3, 10, 15}, {2, 4, 5, 20}, {2, 4, 6, 12}}},
	} {
		got, ok := impl.OneLists(c.k)
		checkLists(t, "OneLists", c.k, got, ok, c.all, true)
		got, ok = impl.OneDifferent(c.k)
		checkLists(t, "OneDifferent", c.k, got, ok, c.different, true)
	}
	for _, bad := range notFew {
		got, ok := impl.OneLists(bad)
		checkLists(t, "OneLists", bad, got, ok, nil, false)
		got, ok = impl.OneDifferent(bad)
		checkLists(t, "OneDifferent", bad, got, ok, nil, false)
		if got != nil {
			t.Error("OneDifferent", bad, "fails with lists that are not nil")
		}
	}
}

// nearlyOne is a list with the sum 1 - 1 / 10^9, all of whose Dens divide 10^9.
func nearlyOne() []int {
	list := []int{}
	for _, part := range []int{500000000, 250000000, 125000000, 62500000, 31250000, 15625000, 7812500, 3906250, 1953125, 1000000, 800000, 125000, 25000, 2500, 512, 100, 10, 2} {
		list = append(list, billion/part)
	}
	return list
}

func TestIsNext(t *testing.T) {
	nearly := nearlyOne()
	for _, c := range []struct {
		list []int
		next int
	}{
		{nil, 2},
		{[]int{}, 2},
		{[]int{2}, 3},
		{[]int{3}, 2},
		{[]int{4}, 2},
		{[]int{2, 3}, 7},
		{[]int{2, 3, 7}, 43},
		{[]int{2, 3, 7, 43}, 1807},
		{[]int{2, 3, 7, 43, 1807}, 3263443},
		{[]int{2, 4}, 5},
		{[]int{2, 3, 8}, 25},
		{[]int{billion}, 2},
		// Numbers stand twice or more.
		{[]int{3, 3}, 4},
		{[]int{4, 4}, 3},
		{[]int{4, 4, 4}, 5},
		{[]int{5, 5}, 2},
		{[]int{5, 5, 5}, 3},
		{slices.Repeat([]int{25}, 24), 26},
		// What is left is no unit fraction: 5 / 12, 3 / 10, 2 / 15 and 3 / 10^9.
		{[]int{3, 4}, 3},
		{[]int{2, 5}, 4},
		{[]int{2, 3, 30}, 8},
		{nearly[:17], 333333334},
		{append(slices.Clone(nearly[:17]), billion), 500000001},
	} {
		for by := -2; by <= 2; by++ {
			if d := c.next + by; d >= 1 {
				if is, ok := impl.IsNext(c.list, d); is != (by == 0) || !ok {
					t.Error("IsNext", c.list, d, is, ok)
				}
			}
		}
		for _, d := range []int{1, billion - 1, billion} {
			if is, ok := impl.IsNext(c.list, d); is || !ok {
				t.Error("IsNext", c.list, d, is, ok)
			}
		}
		for _, bad := range []int{0, -1, -c.next, billion + 1, billion + c.next, math.MinInt, math.MaxInt} {
			if is, ok := impl.IsNext(c.list, bad); is || ok {
				t.Error("IsNext", c.list, bad, is, ok)
			}
		}
	}
}

func TestIsNextWithoutNextNumbers(t *testing.T) {
	// The next number would be greater than MaxPart by one.
	nearly := nearlyOne()
	for _, d := range []int{1, 2, billion - 1, billion} {
		if is, ok := impl.IsNext(nearly, d); is || !ok {
			t.Error("IsNext", nearly, d, is, ok)
		}
	}
	if is, ok := impl.IsNext(nearly, billion+1); is || ok {
		t.Error("IsNext", nearly, is, ok)
	}
	// The sum is 1 exactly, or greater.
	bad := append([][]int{
		{1}, {2, 2}, {2, 3, 6}, {2, 4, 4}, {3, 3, 3}, append(slices.Clone(nearly), billion), {1, 1}, {1, 2}, {2, 2, 2}, {2, 3, 5}, {1, billion - 1}, twos(24), slices.Repeat([]int{24}, 24), slices.Repeat([]int{23}, 24),
	}, notRepeated...)
	for _, list := range bad {
		for _, d := range []int{1, 2, 3, 7, 43, billion} {
			if is, ok := impl.IsNext(list, d); is || ok {
				t.Error("IsNext", list, d, is, ok)
			}
		}
	}
}

func TestHarmonicOf(t *testing.T) {
	for n, want := range map[int]impl.Fraction{
		0: fraction(0, 1), 1: fraction(1, 1), 2: fraction(3, 2), 3: fraction(11, 6), 4: fraction(25, 12), 5: fraction(137, 60), 6: fraction(49, 20),
		10: fraction(7381, 2520), 11: fraction(83711, 27720), 19: fraction(275295799, 77597520), 20: fraction(55835135, 15519504),
	} {
		if sum, ok := impl.HarmonicOf(n); sum != want || !ok {
			t.Error("HarmonicOf", n, sum, ok)
		}
	}
	for _, bad := range []int{-1, 21, -2, -20, 22, 24, 25, 100, billion, math.MinInt, math.MaxInt} {
		if sum, ok := impl.HarmonicOf(bad); sum != none || ok {
			t.Error("HarmonicOf", bad, sum, ok)
		}
	}
}

// A row with the number 0 is for a call that fails.
func TestHarmonicPast(t *testing.T) {
	for _, c := range []struct {
		a    impl.Fraction
		past int
	}{
		{fraction(2, 1), 4},
		{fraction(0, 1), 1},
		{fraction(1, billion), 1},
		{fraction(1, 2), 1},
		{fraction(billion-1, billion), 1},
		{fraction(1, 1), 2},
		{fraction(billion, billion-1), 2},
		{fraction(3, 2), 3},
		{fraction(11, 6), 4},
		{fraction(25, 12), 5},
		{fraction(3, 1), 11},
		{fraction(7, 2), 19},
		{fraction(275295799, 77597520), 20},
		{fraction(275295798, 77597519), 20},
		{fraction(55835134, 15519505), 20},
		{fraction(68, 19), 20},
		{fraction(55835135, 15519504), 0},
		{fraction(55835136, 15519503), 0},
		{fraction(18, 5), 0},
		{fraction(4, 1), 0},
		{fraction(billion, 1), 0},
	} {
		if past, ok := impl.HarmonicPast(c.a); past != c.past || ok != (c.past != 0) {
			t.Error("HarmonicPast", c.a, past, ok)
		}
	}
	for _, bad := range notFractions {
		if past, ok := impl.HarmonicPast(bad); past != 0 || ok {
			t.Error("HarmonicPast", bad, past, ok)
		}
	}
}

func TestRangeSum(t *testing.T) {
	for _, c := range []struct {
		from, until int
		want        impl.Fraction
	}{
		{1, 1, fraction(1, 1)},
		{2, 2, fraction(1, 2)},
		{60, 60, fraction(1, 60)},
		{1, 2, fraction(3, 2)},
		{2, 3, fraction(5, 6)},
		{2, 4, fraction(13, 12)},
		{3, 5, fraction(47, 60)},
		{1, 6, fraction(49, 20)},
		{2, 7, fraction(223, 140)},
		{59, 60, fraction(119, 3540)},
		{55, 60, fraction(10457341, 100127720)},
	} {
		if sum, ok := impl.RangeSum(c.from, c.until); sum != c.want || !ok {
			t.Error("RangeSum", c.from, c.until, sum, ok)
		}
	}
	for _, bad := range [][2]int{
		// Turned round, too long by one, and out of 1..60 by one.
		{2, 1}, {7, 1}, {60, 59}, {60, 1}, {1, 7}, {2, 8}, {54, 60}, {1, 60}, {0, 0}, {0, 1}, {0, 5}, {-1, -1}, {-5, 0}, {-1, 1}, {61, 61}, {60, 61}, {56, 61}, {61, 60}, {62, 66},
		{math.MinInt, math.MinInt}, {math.MinInt, 1}, {math.MinInt, math.MaxInt}, {math.MaxInt, math.MinInt}, {math.MaxInt, math.MaxInt}, {1, math.MaxInt}, {1, math.MinInt}, {math.MaxInt, 60},
		// Ranges of six numbers whose sums have a Den greater than MaxPart.
		{49, 54}, {52, 57}, {53, 58}, {54, 59},
	} {
		if sum, ok := impl.RangeSum(bad[0], bad[1]); sum != none || ok {
			t.Error("RangeSum", bad, sum, ok)
		}
	}
}

func TestZnamFails(t *testing.T) {
	for _, c := range []struct {
		list []int
		at   int
	}{
		{[]int{2, 2}, 0},
		{[]int{2, 4}, 0},
		{[]int{2, 5}, 1},
		{[]int{3, 5}, 1},
		{[]int{3, 4}, 0},
		{[]int{3, 3, 3}, 0},
		{[]int{2, 3, 5}, 1},
		{[]int{2, 3, 8}, 0},
		{[]int{2, 3, 13}, 2},
		{[]int{2, 3, 7, 7}, 2},
		{[]int{2, 3, 7, 41}, 1},
		{[]int{2, 3, 7, 47, 396}, 0},
		{[]int{2, 3, 7, 47, 391}, 1},
		{[]int{2, 3, 11, 23, 29}, 1},
		{[]int{2, 3, 7, 55, 55}, 3},
		{[]int{2, 499999999}, 1},
		{twos(24), 0},
		{[]int{2, billion / 4}, 0},
		// The product is MaxPart exactly, or just less.
		{[]int{2, billion / 2}, 0},
		{[]int{512, 1953125}, 0},
		{[]int{1000, 1000, 1000}, 0},
		{[]int{31622, 31622}, 0},
	} {
		if at, ok := impl.ZnamFails(c.list); at != c.at || !ok {
			t.Error("ZnamFails", c.list, at, ok)
		}
	}
	bad := append([][]int{
		// Each number divides the product of the others plus 1.
		{2, 3}, {2, 3, 7}, {2, 3, 7, 43}, {2, 3, 7, 43, 1807}, {2, 3, 7, 47, 395}, {2, 3, 11, 23, 31},
		// There are fewer than two numbers, or a number is less than 2.
		nil, {}, {1}, {2}, {7}, {billion}, {1, 1}, {1, 2}, {1, 5}, {1, 2, 3}, {1, 1, 2},
		// The product is greater than MaxPart, some of them by little, or than an int can be.
		{2, billion/2 + 2}, {2, 2, billion/4 + 1}, {31623, 31623}, {1000, 1000, 1001}, {billion, billion}, {2, 2, billion / 2},
		slices.Repeat([]int{3}, 24), slices.Repeat([]int{16}, 24), slices.Repeat([]int{billion}, 24), slices.Repeat([]int{1 << 16}, 4), slices.Repeat([]int{1 << 29}, 11),
	}, notRepeated...)
	for _, list := range bad {
		if at, ok := impl.ZnamFails(list); at != 0 || ok {
			t.Error("ZnamFails", list, at, ok)
		}
	}
}

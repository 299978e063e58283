package tests

import (
	"math"
	"slices"
	"strings"
	"testing"

	"loop.example/g01107/impl"
)

// Guarantee 1, the expansions of chapter 1, by examples at the ordinary places and at the limits.

// fullList has the terms 1 * 2, 2 * 3, .. whose first n have the sum n / (n + 1).
func fullList(n int) []int {
	list := []int{}
	for k := 1; k <= n; k++ {
		list = append(list, k*(k+1))
	}
	return list
}

var notExpansions = [][]int{
	{0}, {-1}, {-3, 2}, {0, 2}, {2, 2}, {3, 2}, {2, 3, 3}, {2, 6, 3}, {1, 1},
	{billion + 1}, {2, billion + 1}, {math.MaxInt}, {math.MinInt}, {1, math.MaxInt}, {math.MinInt, math.MaxInt},
	// Sums that are no fractions: the Den is 10^9 + 1, the Num is 10^9 + 1, and both are much greater.
	{1001, 999001}, {1, billion}, {999999998, 999999999},
	// The sum of all is 1 / 20000, but that of the first two is no fraction.
	{30001, 60000, 900030000},
	fullList(25), append(fullList(23), billion, billion),
}

func checkList(t *testing.T, name string, args any, got []int, ok bool, want []int, wantOK bool) {
	t.Helper()
	if !slices.Equal(got, want) || ok != wantOK {
		t.Error(name, args, got, ok, "and not", want, wantOK)
	}
	if !ok && got != nil {
		t.Error(name, args, "fails with a list that is not nil")
	}
}

// listSum is a list of some kind, with its sum.
type listSum struct {
	list []int
	sum  impl.Fraction
}

// checkListSums checks a function that recognises lists of a kind, and one that adds them up, with some of these and with some others.
func checkListSums(t *testing.T, kind string, is func(list []int) bool, sumOf func(list []int) (impl.Fraction, bool), rows []listSum, others [][]int) {
	t.Helper()
	for _, row := range rows {
		if !is(row.list) {
			t.Error(row.list, "should be of the kind", kind)
		}
		if sum, ok := sumOf(row.list); sum != row.sum || !ok {
			t.Error("the sum of the", kind, row.list, "is told as", sum, ok)
		}
	}
	for _, list := range others {
		if is(list) {
			t.Error(list, "should not be of the kind", kind)
		}
		if sum, ok := sumOf(list); sum != none || ok {
			t.Error("a sum is told as if it were of the kind", kind, list, sum, ok)
		}
	}
}

func TestIsExpansionAndSumOf(t *testing.T) {
	checkListSums(t, "expansion", impl.IsExpansion, impl.SumOf, []listSum{
		{nil, fraction(0, 1)},
		{[]int{}, fraction(0, 1)},
		{[]int{1}, fraction(1, 1)},
		{[]int{billion}, fraction(1, billion)},
		{[]int{2, 3, 6}, fraction(1, 1)},
		{[]int{1, 2, 3, 6}, fraction(2, 1)},
		{[]int{1, 2}, fraction(3, 2)},
		// The sums have a Den and a Num of just MaxPart.
		{[]int{512, 1953125}, fraction(1953637, billion)},
		{[]int{1, billion - 1}, fraction(billion, billion-1)},
		{fullList(24), fraction(24, 25)},
	}, notExpansions)
}

func TestCommonMultiple(t *testing.T) {
	for _, c := range []struct {
		list []int
		want int
		ok   bool
	}{
		{nil, 1, true},
		{[]int{1}, 1, true},
		{[]int{4, 6}, 12, true},
		{[]int{2, 3, 4, 5, 6}, 60, true},
		{[]int{billion}, billion, true},
		{[]int{512, 1953125}, billion, true},
		// The multiples are 10^9 + 1 and 1000000020, though the sums are fractions.
		{[]int{19019, 52631579}, 0, false},
		{[]int{333333340, 500000010}, 0, false},
	} {
		if got, ok := impl.CommonMultiple(c.list); got != c.want || ok != c.ok {
			t.Error("CommonMultiple", c.list, got, ok)
		}
	}
	for _, bad := range notExpansions {
		if got, ok := impl.CommonMultiple(bad); got != 0 || ok {
			t.Error("CommonMultiple", bad, got, ok)
		}
	}
}

func TestSplitTerm(t *testing.T) {
	for _, c := range []struct {
		list []int
		i    int
		want []int
		ok   bool
	}{
		{[]int{2}, 0, []int{3, 6}, true},
		{[]int{2, 4, 20}, 0, []int{3, 4, 6, 20}, true},
		{[]int{2, 4, 20}, 1, nil, false}, // 20 is there already
		{[]int{2, 4, 20}, 2, []int{2, 4, 21, 420}, true},
		{[]int{2, 3, 7}, 0, nil, false},
		{[]int{2, 6, 7}, 0, nil, false},
		{[]int{1}, 0, nil, false},
		{[]int{1, 3}, 0, nil, false},
		{[]int{31622}, 0, []int{31623, 31622 * 31623}, true},
		{[]int{31623}, 0, nil, false},
		{[]int{billion}, 0, nil, false},
		{fullList(23), 22, append(fullList(22), 553, 552*553), true},
		{fullList(24), 23, nil, false},
		{[]int{30000, 60000}, 0, nil, false}, // the sum of the first two would be no fraction
		{nil, 0, nil, false},
		{[]int{2}, 1, nil, false},
		{[]int{2}, -1, nil, false},
		{[]int{2}, math.MaxInt, nil, false},
		{[]int{2}, math.MinInt, nil, false},
	} {
		got, ok := impl.SplitTerm(c.list, c.i)
		checkList(t, "SplitTerm", c, got, ok, c.want, c.ok)
	}
	for _, bad := range notExpansions {
		got, ok := impl.SplitTerm(bad, 0)
		checkList(t, "SplitTerm", bad, got, ok, nil, false)
	}
}

func TestSplitBy(t *testing.T) {
	for _, c := range []struct {
		list    []int
		i, p, q int
		want    []int
		ok      bool
	}{
		{[]int{2}, 0, 1, 2, []int{3, 6}, true},
		{[]int{6}, 0, 2, 3, []int{10, 15}, true},
		{[]int{6}, 0, 1, 3, []int{8, 24}, true},
		{[]int{2, 6, 100}, 1, 2, 3, []int{2, 10, 15, 100}, true},
		{[]int{2, 6, 10}, 1, 2, 3, nil, false},
		{[]int{2, 6, 15}, 1, 2, 3, nil, false},
		{[]int{2, 3, 6}, 0, 1, 2, nil, false},
		{[]int{2, 3, 6}, 0, 1, 3, nil, false},
		{[]int{3}, 0, 2, 3, nil, false}, // 15 / 2 is not whole, 15 / 3 is
		{[]int{4}, 0, 2, 3, nil, false}, // 20 / 3 is not whole, 20 / 2 is
		{[]int{1}, 0, 1, 2, nil, false},
		{[]int{999000}, 0, 999, 1000, []int{1997001, 1999000}, true},
		{[]int{1001000}, 0, 1000, 1001, nil, false},
		{[]int{1001}, 0, 1, 1001, nil, false},
		{[]int{333333332}, 0, 1, 2, []int{499999998, 999999996}, true},
		{[]int{333333334}, 0, 1, 2, nil, false},
		{fullList(23), 22, 1, 2, append(fullList(22), 828, 1656), true},
		{fullList(24), 23, 1, 2, nil, false},
		// The list would begin with 25884686 and 222206553, the sum of which is no fraction.
		{[]int{24689617, 222206553}, 0, 47, 971, nil, false},
		{[]int{30000, 60000}, 0, 1, 2, []int{45000, 60000, 90000}, true},
		{[]int{2}, 0, 2, 1, nil, false},
		{[]int{2}, 0, 1, 1, nil, false},
		{[]int{2}, 0, 0, 1, nil, false},
		{[]int{2}, 0, 0, 0, nil, false},
		{[]int{2}, 0, -1, 1, nil, false},
		{[]int{2}, 0, -2, -1, nil, false},
		{[]int{2}, 0, math.MinInt, math.MaxInt, nil, false},
		{[]int{2}, 0, 1, math.MaxInt, nil, false},
		{[]int{2}, 1, 1, 2, nil, false},
		{[]int{2}, -1, 1, 2, nil, false},
		{nil, 0, 1, 2, nil, false},
	} {
		got, ok := impl.SplitBy(c.list, c.i, c.p, c.q)
		checkList(t, "SplitBy", c, got, ok, c.want, c.ok)
	}
	for _, bad := range notExpansions {
		got, ok := impl.SplitBy(bad, 0, 1, 2)
		checkList(t, "SplitBy", bad, got, ok, nil, false)
	}
}

func TestMergePair(t *testing.T) {
	for _, c := range []struct {
		list []int
		i, j int
		want []int
		ok   bool
	}{
		{[]int{3, 6}, 0, 1, []int{2}, true},
		{[]int{4, 12}, 0, 1, []int{3}, true},
		{[]int{3, 4, 6, 20}, 0, 2, []int{2, 4, 20}, true},
		{[]int{2, 10, 15, 100}, 1, 2, []int{2, 6, 100}, true},
		{[]int{2, 3, 6}, 1, 2, nil, false},
		{[]int{2, 3}, 0, 1, nil, false},
		{[]int{1, 2}, 0, 1, nil, false},
		{[]int{499999998, 999999996}, 0, 1, []int{333333332}, true},
		// The merged list would begin with 1594180 and 13831370, the sum of which is no fraction.
		{[]int{1627220, 13831370, 20747055, 78513365}, 0, 3, nil, false},
		{[]int{3, 6}, 1, 0, nil, false},
		{[]int{3, 6}, 0, 0, nil, false},
		{[]int{2, 4}, 0, 0, nil, false},
		{[]int{3, 6}, 0, 2, nil, false},
		{[]int{3, 6}, -1, 1, nil, false},
		{[]int{3, 6}, math.MinInt, math.MaxInt, nil, false},
		{[]int{2}, 0, 0, nil, false},
		{nil, 0, 1, nil, false},
	} {
		got, ok := impl.MergePair(c.list, c.i, c.j)
		checkList(t, "MergePair", c, got, ok, c.want, c.ok)
	}
	for _, bad := range notExpansions {
		got, ok := impl.MergePair(bad, 0, 1)
		checkList(t, "MergePair", bad, got, ok, nil, false)
	}
}

func TestScaleExpansion(t *testing.T) {
	for _, c := range []struct {
		list []int
		by   int
		want []int
		ok   bool
	}{
		{[]int{2, 3, 6}, 1, []int{2, 3, 6}, true},
		{[]int{2, 3, 6}, 5, []int{10, 15, 30}, true},
		{nil, 1, nil, true},
		{nil, billion, nil, true},
		{[]int{1}, billion, []int{billion}, true},
		{[]int{2}, billion / 2, []int{billion}, true},
		{[]int{2}, billion/2 + 1, nil, false},
		{[]int{billion}, billion, nil, false},
		{[]int{2, 3}, 200000001, nil, false},    // the sum would have the Den 1200000006
		{[]int{3, 4, 6}, 100000001, nil, false}, // the sum of the first two would have the Den 1200000012
		{[]int{2}, 0, nil, false},
		{[]int{2}, -1, nil, false},
		{nil, 0, nil, false},
		{nil, billion + 1, nil, false},
		{[]int{1}, billion + 1, nil, false},
		{[]int{1}, math.MaxInt, nil, false},
		{[]int{1}, math.MinInt, nil, false},
		{[]int{2}, math.MinInt + 1, nil, false},
	} {
		got, ok := impl.ScaleExpansion(c.list, c.by)
		checkList(t, "ScaleExpansion", c, got, ok, c.want, c.ok)
	}
	for _, bad := range notExpansions {
		got, ok := impl.ScaleExpansion(bad, 1)
		checkList(t, "ScaleExpansion", bad, got, ok, nil, false)
	}
}

func TestUniteExpansions(t *testing.T) {
	for _, c := range []struct {
		a, b, want []int
		ok         bool
	}{
		{nil, nil, nil, true},
		{nil, []int{2, 3}, []int{2, 3}, true},
		{[]int{2, 3}, nil, []int{2, 3}, true},
		{[]int{2, 6}, []int{3, 6, 20}, []int{2, 3, 6, 20}, true},
		{[]int{5, 6}, []int{1, 2}, []int{1, 2, 5, 6}, true},
		{[]int{2, 3}, []int{2, 3}, []int{2, 3}, true},
		{fullList(24), fullList(24), fullList(24), true},
		{fullList(23), []int{600}, fullList(24), true},
		{fullList(24), []int{650}, nil, false},
		{[]int{2}, []int{999999999}, nil, false},
		{[]int{30001}, []int{60000}, nil, false},
		{[]int{30001, 900030000}, []int{60000}, nil, false}, // only the sum of the first two would be none
	} {
		got, ok := impl.UniteExpansions(c.a, c.b)
		checkList(t, "UniteExpansions", c, got, ok, c.want, c.ok)
	}
	for _, bad := range notExpansions {
		got, ok := impl.UniteExpansions(bad, []int{7})
		checkList(t, "UniteExpansions", bad, got, ok, nil, false)
		got, ok = impl.UniteExpansions(nil, bad)
		checkList(t, "UniteExpansions", bad, got, ok, nil, false)
	}
	// United, both would be an expansion again, but each one must be one.
	got, ok := impl.UniteExpansions([]int{3, 2}, []int{2, 3})
	checkList(t, "UniteExpansions", "3, 2", got, ok, nil, false)
}

func TestIsPartOf(t *testing.T) {
	for _, c := range []struct {
		a, b     []int
		want, ok bool
	}{
		{nil, nil, true, true},
		{nil, []int{2}, true, true},
		{[]int{2}, nil, false, true},
		{[]int{2, 6}, []int{2, 3, 6}, true, true},
		{[]int{2, 3, 6}, []int{2, 3, 6}, true, true},
		{[]int{2, 3, 6}, []int{2, 6}, false, true},
		{[]int{2, 4}, []int{2, 3, 6}, false, true},
		{[]int{7}, []int{2, 3, 6}, false, true},
	} {
		if got, ok := impl.IsPartOf(c.a, c.b); got != c.want || ok != c.ok {
			t.Error("IsPartOf", c.a, c.b, got, ok)
		}
	}
	for _, bad := range notExpansions {
		if got, ok := impl.IsPartOf(bad, []int{2, 3}); got || ok {
			t.Error("IsPartOf", bad, got, ok)
		}
		if got, ok := impl.IsPartOf(nil, bad); got || ok {
			t.Error("IsPartOf", bad, got, ok)
		}
	}
}

func TestRestOf(t *testing.T) {
	for _, c := range []struct {
		a    impl.Fraction
		list []int
		want impl.Fraction
		ok   bool
	}{
		{fraction(4, 5), []int{2, 4}, fraction(1, 20), true},
		{fraction(4, 5), nil, fraction(4, 5), true},
		{fraction(0, 1), nil, fraction(0, 1), true},
		{fraction(1, 1), []int{2, 3, 6}, fraction(0, 1), true},
		{fraction(3, 1), []int{2}, fraction(5, 2), true},
		{fraction(1, 1), fullList(24), fraction(1, 25), true},
		{fraction(4, 5), []int{2, 3}, none, false},
		{fraction(0, 1), []int{billion}, none, false},
		{fraction(1, 3), []int{billion}, none, false},
	} {
		if got, ok := impl.RestOf(c.a, c.list); got != c.want || ok != c.ok {
			t.Error("RestOf", c.a, c.list, got, ok)
		}
	}
	for _, bad := range notFractions {
		if got, ok := impl.RestOf(bad, nil); got != none || ok {
			t.Error("RestOf", bad, got, ok)
		}
	}
	for _, bad := range notExpansions {
		if got, ok := impl.RestOf(fraction(5, 1), bad); got != none || ok {
			t.Error("RestOf", bad, got, ok)
		}
	}
}

func TestExpansionText(t *testing.T) {
	for _, c := range []struct {
		list []int
		text string
	}{
		{nil, ""},
		{[]int{1}, "1"},
		{[]int{2, 3}, "2+3"},
		{[]int{2, 4, 20}, "2+4+20"},
		{[]int{billion}, "1000000000"},
		{[]int{512, 1953125}, "512+1953125"},
		{fullList(24), "2+6+12+20+30+42+56+72+90+110+132+156+182+210+240+272+306+342+380+420+462+506+552+600"},
	} {
		if got, ok := impl.ExpansionText(c.list); got != c.text || !ok {
			t.Error("ExpansionText", c.list, got, ok)
		}
		got, ok := impl.ParseExpansion(c.text)
		checkList(t, "ParseExpansion", c.text, got, ok, c.list, true)
	}
	for _, bad := range notExpansions {
		if got, ok := impl.ExpansionText(bad); got != "" || ok {
			t.Error("ExpansionText", bad, got, ok)
		}
	}
}

func TestParseExpansionFails(t *testing.T) {
	for _, s := range []string{
		"+", "2+", "+2", "2++3", "++", "+2+3", "2+3+", "0", "0+2", "02", "2+03", "00", "-2", "2+-3", "-3+2",
		" ", " 2", "2 ", "2 +3", "2+ 3", "2+3 ", "2+3\n", "\t2", "2\x00", "2,3", "2 3", "2-3", "2/3", "1_0", "0x2", "2.0", "2e3", "x", "２",
		"2+2", "3+2", "2+6+3", "1000000001", "2+1000000001", "1001+999001", "1+1000000000", "30001+60000+900030000",
		"9223372036854775808", "18446744073709551618", "2+18446744073709551619",
		"2+6+12+20+30+42+56+72+90+110+132+156+182+210+240+272+306+342+380+420+462+506+552+600+650",
		"2+6+12+20+30+42+56+72+90+110+132+156+182+210+240+272+306+342+380+420+462+506+552+600+",
		strings.Repeat("+", 100000), strings.Repeat("2+", 100000), strings.Repeat("9", 100000), strings.Repeat("0", 100000),
	} {
		got, ok := impl.ParseExpansion(s)
		checkList(t, "ParseExpansion", s[:min(len(s), 100)], got, ok, nil, false)
	}
}

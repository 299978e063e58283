package tests

import (
	"math/big"
	"math/bits"
	"slices"
	"testing"

	"loop.example/g01107/impl"
)

// Guarantee 6 once more: every function of chapter 6 against a second reading of the document that tries all lists up to bounds that are far from those of the best ones.

// repeatedSums are the sums of the first numbers of a repeated list, or nil for another list.
func repeatedSums(list []int) []*big.Rat {
	return sumsApart(list, 0)
}

// nearLists are repeated lists and others, many of them with numbers that stand twice or more.
func nearLists() [][]int {
	lists := slices.Concat(shortLists(), notRepeated)
	for _, number := range []int{1, 2, 3, 5, 23, 24, 25, 1000, 31622, 31623, billion / 2, billion - 1, billion, billion + 1} {
		for times := 1; times <= 26; times++ {
			lists = append(lists, slices.Repeat([]int{number}, times), append(slices.Repeat([]int{number}, times), number+1), append(slices.Repeat([]int{number}, times), billion))
		}
	}
	// Lists in which each number divides the product of the others plus 1, and those beside them.
	for _, list := range [][]int{{2, 3}, {2, 3, 7}, {2, 3, 7, 43}, {2, 3, 7, 43, 1807}, {2, 3, 7, 47, 395}, {2, 3, 11, 23, 31}} {
		for i := range list {
			for by := -6; by <= 6; by++ {
				beside := slices.Clone(list)
				beside[i] += by
				lists = append(lists, beside, append(beside, beside[len(beside)-1]))
			}
		}
	}
	return append(lists, nearlyOne())
}

func TestRepeatedListsByOracle(t *testing.T) {
	for _, list := range nearLists() {
		sums := repeatedSums(list)
		want, isOne := none, sums != nil
		if isOne {
			want, _ = wantFraction(sums[len(list)])
		}
		if impl.IsRepeated(list) != isOne {
			t.Error("IsRepeated", list)
		}
		if sum, ok := impl.RepeatedSum(list); sum != want || ok != isOne {
			t.Error("RepeatedSum", list, sum, ok)
		}
	}
}

// nearFractions are all near fractions.
func nearFractions() []impl.Fraction {
	all := []impl.Fraction{}
	for den := 1; den <= 12; den++ {
		for num := 1; num <= den; num++ {
			if a := fraction(num, den); valueOf(a) != nil && 4*num >= den {
				all = append(all, a)
			}
		}
	}
	return all
}

// mostOf is the greatest k for a near fraction.
func mostOf(a impl.Fraction) int {
	if a == fraction(1, 1) {
		return 4
	}
	return 3
}

// isLessRatio compares a / b with c / d, for numbers whose products are too great for an int.
func isLessRatio(a, b, c, d int) bool {
	high, low := bits.Mul64(uint64(a), uint64(d))
	otherHigh, otherLow := bits.Mul64(uint64(c), uint64(b))
	return high < otherHigh || high == otherHigh && low < otherLow
}

// below is the list that leaves least of a fraction: num / den.
type below struct {
	k, gap   int
	list     []int
	num, den int
	same     int
}

// grow tries all lists that go on behind numbers that leave num / den. Only the last number is not tried: it is the least one that leaves something.
func (b *below) grow(numbers []int, num int, den int) {
	least := 1
	if i := len(numbers); i > 0 {
		least = numbers[i-1] + b.gap
	}
	if len(numbers) == b.k-1 {
		for least*num <= den {
			least = den/num + 1
		}
		num, den = num*least-den, den*least
		if b.list == nil || isLessRatio(num, den, b.num, b.den) {
			b.list, b.num, b.den, b.same = append(slices.Clone(numbers), least), num, den, 0
		} else if !isLessRatio(b.num, b.den, num, den) {
			b.same++
		}
		return
	}
	for d := least; d <= []int{20, 1000, 150}[len(numbers)]; d++ {
		if d*num > den {
			b.grow(append(numbers, d), num*d-den, den*d)
		}
	}
}

// checkBelow looks at a list by itself: it is a repeated list of k numbers with a sum less than a, which leaves the gap.
func checkBelow(t *testing.T, name string, a impl.Fraction, k int, list []int, gap *big.Rat) {
	t.Helper()
	sums := repeatedSums(list)
	if len(list) != k || sums == nil || sums[k].Cmp(valueOf(a)) >= 0 {
		t.Error(name, a, k, list)
	} else if new(big.Rat).Sub(valueOf(a), sums[k]).Cmp(gap) != 0 {
		t.Error(name, a, k, list, "does not leave", gap)
	}
}

func TestNearestByOracle(t *testing.T) {
	same := 0
	for _, a := range nearFractions() {
		for k := 1; k <= mostOf(a); k++ {
			nearest := below{k: k}
			nearest.grow(nil, a.Num, a.Den)
			gap := big.NewRat(int64(nearest.num), int64(nearest.den))
			got, ok := impl.NearestBelow(a, k)
			checkList(t, "NearestBelow", []any{a, k}, got, ok, nearest.list, true)
			checkBelow(t, "NearestBelow", a, k, got, gap)
			want, _ := wantFraction(gap)
			if told, ok := impl.GapBelow(a, k); told != want || !ok {
				t.Error("GapBelow", a, k, told, ok, want)
			}
			different := below{k: k, gap: 1}
			different.grow(nil, a.Num, a.Den)
			got, ok = impl.NearestDifferent(a, k)
			checkList(t, "NearestDifferent", []any{a, k}, got, ok, different.list, true)
			checkBelow(t, "NearestDifferent", a, k, got, big.NewRat(int64(different.num), int64(different.den)))
			same += nearest.same + different.same
		}
	}
	// That is so for 7 / 10 alone.
	if same != 2 {
		t.Error("the number of lists with a greatest sum that is another list's is not as it was", same)
	}
}

// Each number is found by trying, one after the other.
func TestGreedyBelowByOracle(t *testing.T) {
	for _, a := range nearFractions() {
		left, want := valueOf(a), []int{}
		for k := 1; k <= mostOf(a); k++ {
			d := 1
			for unit(d).Cmp(left) >= 0 {
				d++
			}
			left, want = new(big.Rat).Sub(left, unit(d)), append(want, d)
			got, ok := impl.GreedyBelow(a, k)
			checkList(t, "GreedyBelow", []any{a, k}, got, ok, want, true)
			checkBelow(t, "GreedyBelow", a, k, got, left)
		}
	}
}

// above has, for each most in 1..60, the list of the least sum num / den greater than a fraction.
type above struct {
	a    impl.Fraction
	k    int
	list [61][]int
	num  [61]int
	den  [61]int
	same int
}

// grow tries all lists that go on behind numbers with the sum num / den.
func (b *above) grow(numbers []int, num int, den int) {
	least := 1
	if i := len(numbers); i > 0 {
		least = numbers[i-1]
	}
	if len(numbers) < b.k {
		for d := least; d <= 60; d++ {
			b.grow(append(numbers, d), num*d+den, den*d)
		}
		return
	}
	if num*b.a.Den <= b.a.Num*den {
		return
	}
	// These products are all less than 4 * 60^7.
	for most := least; most <= 60; most++ {
		order := num*b.den[most] - b.num[most]*den
		if b.list[most] == nil || order < 0 {
			b.list[most], b.num[most], b.den[most] = slices.Clone(numbers), num, den
		} else if order == 0 {
			b.same++
		}
	}
}

func TestLeastAboveByOracle(t *testing.T) {
	same := 0
	for _, a := range nearFractions() {
		for k := 1; k <= mostOf(a); k++ {
			best := above{a: a, k: k}
			best.grow(nil, 0, 1)
			for most := 1; most <= 60; most++ {
				got, ok := impl.LeastAbove(a, k, most)
				checkList(t, "LeastAbove", []any{a, k, most}, got, ok, best.list[most], best.list[most] != nil)
				if isTold := k > 1 || a != fraction(1, 1); ok != isTold {
					t.Error("LeastAbove", a, k, most, "is told:", ok)
				}
			}
			same += best.same
		}
	}
	if same < 50 {
		t.Error("there are too few lists of a least sum that is another list's", same)
	}
}

// wantOnes are all lists of k numbers with the sum 1, each one greater at least by gap than that before it. Only the last number is not tried.
func wantOnes(k int, gap int) [][]int {
	lists := [][]int{}
	var grow func(numbers []int, num int, den int)
	grow = func(numbers []int, num int, den int) {
		least := 1
		if i := len(numbers); i > 0 {
			least = numbers[i-1] + gap
		}
		if len(numbers) == k-1 {
			if den%num == 0 && den/num >= least {
				lists = append(lists, append(slices.Clone(numbers), den/num))
			}
			return
		}
		for d := least; d <= 60; d++ {
			if d*num > den {
				grow(append(numbers, d), num*d-den, den*d)
			}
		}
	}
	grow(nil, 1, 1)
	return lists
}

func TestOnesByOracle(t *testing.T) {
	for k := 1; k <= 4; k++ {
		got, ok := impl.OneLists(k)
		checkLists(t, "OneLists", k, got, ok, wantOnes(k, 0), true)
		for _, list := range got {
			if sums := repeatedSums(list); sums == nil || sums[k].Cmp(unit(1)) != 0 {
				t.Error("OneLists", k, list)
			}
		}
		got, ok = impl.OneDifferent(k)
		checkLists(t, "OneDifferent", k, got, ok, wantOnes(k, 1), true)
		checkSums(t, "OneDifferent", fraction(1, 1), k, got)
		few, ok := impl.FewTerms(fraction(1, 1), k, 60)
		checkLists(t, "OneDifferent", k, got, ok, few, true)
	}
}

// A number is the next one if its unit fraction is less than what is left, and that of the number before is not.
func TestIsNextByOracle(t *testing.T) {
	told := 0
	for _, list := range nearLists() {
		sums := repeatedSums(list)
		isBelow := sums != nil && sums[len(list)].Cmp(unit(1)) < 0
		left, near := unit(1), 2
		if isBelow {
			left.Sub(left, sums[len(list)])
			near = leastFrom(left, 1, 1)
		}
		for _, d := range append([]int{near - 2, near - 1, near, near + 1, near + 2}, borderInts...) {
			isIn := isBelow && d >= 1 && d <= billion
			want := isIn && unit(d).Cmp(left) < 0 && (d == 1 || unit(d-1).Cmp(left) >= 0)
			if is, ok := impl.IsNext(list, d); is != want || ok != isIn {
				t.Error("IsNext", list, d, is, ok)
			}
			if want {
				told++
			}
		}
	}
	if told < 1000 {
		t.Error("there are too few next numbers", told)
	}
}

// besides are a fraction, and those next to it among all with a Den that is at most its own.
func besides(x *big.Rat) []impl.Fraction {
	a, _ := wantFraction(x)
	all := []impl.Fraction{a}
	for by := int64(-1); by <= 1; by += 2 {
		// The Num of the difference is 1 for this Den.
		den := new(big.Int).ModInverse(new(big.Int).Mul(x.Num(), big.NewInt(by)), x.Denom())
		if den.Sign() == 0 {
			den.Set(x.Denom())
		}
		num := new(big.Int).Mul(x.Num(), den)
		num.Div(num.Sub(num, big.NewInt(by)), x.Denom())
		if beside, ok := wantFraction(new(big.Rat).SetFrac(num, den)); ok {
			all = append(all, beside)
		}
	}
	return all
}

func TestHarmonicsByOracle(t *testing.T) {
	sums := []*big.Rat{new(big.Rat)}
	fractions := append(borderFractions(), sampleFractions()...)
	for n := 1; n <= 20; n++ {
		sums = append(sums, new(big.Rat).Add(sums[n-1], unit(n)))
		fractions = append(fractions, besides(sums[n])...)
	}
	for n := -3; n <= 30; n++ {
		want, isTold := none, n >= 0 && n <= 20
		if isTold {
			want, _ = wantFraction(sums[n])
		}
		if sum, ok := impl.HarmonicOf(n); sum != want || ok != isTold {
			t.Error("HarmonicOf", n, sum, ok)
		}
	}
	counts := [21]int{}
	for _, a := range fractions {
		want := 0
		if x := valueOf(a); x != nil {
			for n := 20; n >= 0 && sums[n].Cmp(x) > 0; n-- {
				want = n
			}
		}
		if past, ok := impl.HarmonicPast(a); past != want || ok != (want != 0) {
			t.Error("HarmonicPast", a, past, ok, want)
		}
		counts[want]++
	}
	if slices.Contains(counts[:], 0) {
		t.Error("there are numbers without a fraction", counts)
	}
}

func TestRangeSumByOracle(t *testing.T) {
	for from := -3; from <= 65; from++ {
		for until := -3; until <= 70; until++ {
			want, isTold := none, false
			if from >= 1 && from <= until && until <= 60 && until <= from+5 {
				sum := new(big.Rat)
				for d := from; d <= until; d++ {
					sum.Add(sum, unit(d))
				}
				want, isTold = wantFraction(sum)
			}
			got, ok := impl.RangeSum(from, until)
			if got != want || ok != isTold {
				t.Error("RangeSum", from, until, got, ok)
			}
			if ok && got.Den == 1 && (from != 1 || until != 1) {
				t.Error("RangeSum", from, until, got, "is a whole number")
			}
		}
	}
}

func TestZnamByOracle(t *testing.T) {
	told := 0
	for _, list := range nearLists() {
		want, isTold := 0, false
		product := big.NewInt(1)
		for _, number := range list {
			product.Mul(product, big.NewInt(int64(number)))
		}
		if repeatedSums(list) != nil && len(list) >= 2 && list[0] >= 2 && product.Cmp(big.NewInt(billion)) <= 0 {
			for i := len(list) - 1; i >= 0; i-- {
				others := 1
				for j, number := range list {
					if j != i {
						others *= number
					}
				}
				if (others+1)%list[i] != 0 {
					want, isTold = i, true
				}
			}
		}
		if at, ok := impl.ZnamFails(list); at != want || ok != isTold {
			t.Error("ZnamFails", list, at, ok)
		}
		if want > 0 {
			told++
		}
	}
	if told < 100 {
		t.Error("there are too few lists that fail behind their first number", told)
	}
}

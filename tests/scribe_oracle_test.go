package tests

import (
	"math/big"
	"slices"
	"testing"

	"loop.example/g01107/impl"
)

// Guarantee 7 once more: every function of chapter 7 against a second reading of the document: marks are binary digits of great numbers, bases are tried one after the other, and sums are added up by themselves.

// isFactor reports whether n is in 0..MaxFactor.
func isFactor(n int) bool {
	return 0 <= n && n <= million
}

// wantMarks are the places of the digits 1 of a number.
func wantMarks(n int) []int {
	marks, digits := []int{}, big.NewInt(int64(n))
	for i := range digits.BitLen() {
		if digits.Bit(i) == 1 {
			marks = append(marks, i)
		}
	}
	return marks
}

// wantNumber is the number for which marks stand, if they are marks.
func wantNumber(marks []int) (int, bool) {
	number, last := new(big.Int), -1
	for _, mark := range marks {
		if mark <= last || mark > 19 {
			return 0, false
		}
		number.Add(number, new(big.Int).Lsh(big.NewInt(1), uint(mark)))
		last = mark
	}
	if number.Cmp(big.NewInt(million)) > 0 {
		return 0, false
	}
	return int(number.Int64()), true
}

// factorsAndOthers are small and great factors, and numbers beside the range.
func factorsAndOthers() []int {
	all := slices.Concat(borderInts, notFactors, upTo(20), []int{31, 32, 33, 63, 64, 65, 100, 179, 500, 524287, 524288, 524289, 720720, million - 1, million, million / 2, million/2 + 1, million / 3})
	for n := 23; n < million; n = n*5/2 + 1 {
		all = append(all, n)
	}
	return all
}

// There is a list for each number, and a number for each list that is told.
func TestMarksByOracle(t *testing.T) {
	for n := -3; n <= million+3; n++ {
		want, isTold := []int(nil), isFactor(n)
		if isTold {
			want = wantMarks(n)
		}
		marks, ok := impl.MarksOf(n)
		if !slices.Equal(marks, want) || ok != isTold {
			t.Fatal("MarksOf", n, marks, ok, want)
		}
		if number, ok := impl.FromMarks(marks); isTold && (number != n || !ok) {
			t.Fatal("FromMarks", marks, number, ok)
		}
	}
}

func TestMarkListsByOracle(t *testing.T) {
	lists := append(shortLists(), allMarks(), allMarks()[:19])
	near := []int{-1, 0, 1, 6, 7, 9, 14, 15, 16, 17, 18, 19, 20, 21}
	for _, i := range near {
		lists = append(lists, []int{i}, append(allMarks()[:12], i), append(wantMarks(million), i), append([]int{i}, wantMarks(million)...))
		for _, j := range near {
			lists = append(lists, []int{i, j})
			for _, k := range near {
				lists = append(lists, []int{i, j, k}, []int{i, j, k, 19}, []int{0, i, j, k}, []int{i, j, 17, k, 19})
			}
		}
	}
	for n := million - 3; n < 1<<20; n += 7 {
		lists = append(lists, wantMarks(n))
	}
	for _, list := range lists {
		want, isTold := wantNumber(list)
		if got, ok := impl.FromMarks(list); got != want || ok != isTold {
			t.Error("FromMarks", list, got, ok, want)
		}
	}
}

func TestDoublingsByOracle(t *testing.T) {
	for _, a := range factorsAndOthers() {
		for n := -3; n <= 70; n++ {
			want, isTold := []int{}, isFactor(a) && n >= 0 && n <= 20
			for i := 0; isTold && i < n; i++ {
				want = append(want, int(new(big.Int).Lsh(big.NewInt(int64(a)), uint(i)).Int64()))
			}
			got, ok := impl.DoublingsOf(a, n)
			checkList(t, "DoublingsOf", []int{a, n}, got, ok, want, isTold)
		}
	}
}

func TestProductsOfMarksByOracle(t *testing.T) {
	for _, a := range factorsAndOthers() {
		for _, b := range factorsAndOthers() {
			args := []int{a, b}
			want, marks, isTold := 0, []int{}, isFactor(a) && isFactor(b)
			if isTold {
				want, marks = a*b, wantMarks(b)
			}
			got, product, ok := impl.MultiplyMarks(a, b)
			checkList(t, "MultiplyMarks", args, got, ok, marks, isTold)
			if product != want {
				t.Error("MultiplyMarks", args, product)
			}
			doublings, _ := impl.DoublingsOf(a, 20)
			for _, mark := range got {
				product -= doublings[mark]
			}
			if product != 0 {
				t.Error("MultiplyMarks", args, "is not the sum of its doublings")
			}
		}
	}
}

// wantDivided takes away doublings, from the greatest one that is at most a.
func wantDivided(a int, b int) ([]int, int) {
	doublings, marks := []int{}, []int{}
	for d := b; d <= a; d += d {
		doublings = append(doublings, d)
	}
	for len(doublings) > 0 {
		last := len(doublings) - 1
		if doublings[last] <= a {
			a, marks = a-doublings[last], append([]int{last}, marks...)
		}
		doublings = doublings[:last]
	}
	return marks, a
}

// factorPairs are small and great factors and others in pairs.
func factorPairs() [][2]int {
	pairs := [][2]int{}
	for a := -2; a <= 130; a++ {
		for b := -2; b <= 60; b++ {
			pairs = append(pairs, [2]int{a, b})
		}
	}
	for _, a := range factorsAndOthers() {
		for _, b := range factorsAndOthers() {
			pairs = append(pairs, [2]int{a, b})
		}
	}
	return pairs
}

func TestQuotientsOfMarksByOracle(t *testing.T) {
	for _, pair := range factorPairs() {
		a, b := pair[0], pair[1]
		want, wantLeft, isTold := []int{}, 0, isFactor(a) && isFactor(b) && b > 0
		if isTold {
			want, wantLeft = wantDivided(a, b)
		}
		marks, left, ok := impl.DivideMarks(a, b)
		checkList(t, "DivideMarks", pair, marks, ok, want, isTold)
		if left != wantLeft {
			t.Error("DivideMarks", pair, left)
		}
		if quotient, _ := wantNumber(marks); isTold && (quotient*b+left != a || left >= b) {
			t.Error("DivideMarks", pair, marks, left, "are no quotient and rest")
		}
	}
}

func TestQuotientExpansionByOracle(t *testing.T) {
	failed := 0
	for _, pair := range factorPairs() {
		a, b := pair[0], pair[1]
		whole, want, isTold := 0, []int(nil), isFactor(a) && isFactor(b) && b > 0
		if isTold {
			whole = a / b
			want, isTold = wantGreedy(big.NewRat(int64(a%b), int64(b)), 1, 1)
			if !isTold {
				whole, failed = 0, failed+1
			}
		}
		got, list, ok := impl.QuotientExpansion(a, b)
		checkList(t, "QuotientExpansion", pair, list, ok, want, isTold)
		if got != whole {
			t.Error("QuotientExpansion", pair, got)
		}
		if sums := sumsOf(list); ok && (sums == nil || new(big.Rat).Add(sums[len(list)], big.NewRat(int64(got), 1)).Cmp(big.NewRat(int64(a), int64(b))) != 0) {
			t.Error("QuotientExpansion", pair, got, list, "is not the quotient")
		}
	}
	if failed < 100 {
		t.Error("there are too few fractions whose greedy expansion fails", failed)
	}
}

// wantOverBy is the expansion of 2 / n that is made of m, if there is one.
func wantOverBy(n int, m int) ([]int, bool) {
	divisors, ok := wantGreatest(m, 2*m-n)
	if !ok {
		return nil, false
	}
	terms := []int{m}
	for _, d := range divisors {
		terms = append(terms, m/d*n)
	}
	return wantList(terms)
}

func TestTwoOverByOracle(t *testing.T) {
	several, same := 0, 0
	for n := -5; n <= 260; n++ {
		base, want := 0, []int{}
		for m := 1; n >= 3 && n <= 201 && n%2 == 1 && m < n; m++ {
			if 2*m <= n {
				continue
			}
			list, ok := wantOverBy(n, m)
			if !ok {
				continue
			}
			if base == 0 || len(list) < len(want) || len(list) == len(want) && list[len(list)-1] < want[len(want)-1] {
				base, want = m, list
			}
		}
		got, ok := impl.TwoOver(n)
		checkList(t, "TwoOver", n, got, ok, want, base != 0)
		if told, ok := impl.TwoOverBase(n); told != base || ok != (base != 0) {
			t.Error("TwoOverBase", n, told, ok, base)
		}
		if base == 0 {
			continue
		}
		if sums := sumsOf(got); sums == nil || sums[len(got)].Cmp(big.NewRat(2, int64(n))) != 0 {
			t.Error("TwoOver", n, got, "has another sum")
		}
		for m := n/2 + 1; m < n; m++ {
			if list, ok := wantOverBy(n, m); ok && m != base && len(list) == len(want) {
				several++
				if list[len(list)-1] == want[len(want)-1] {
					same++
				}
			}
		}
	}
	// Two different lists of two terms with one sum have no greatest term in common.
	if several < 50 || same != 0 {
		t.Error("there are not as many bases with equally few terms as there were", several, same)
	}
}

// The greatest divisor d of n that is less than n divides (n + d) / 2, which leaves it alone: there are always two terms.
func TestTwoOverByGreatestDivisor(t *testing.T) {
	for n := 3; n <= 201; n += 2 {
		d := n - 1
		for n%d != 0 {
			d--
		}
		got, ok := impl.TwoOver(n)
		checkList(t, "TwoOver", n, got, ok, []int{(n + d) / 2, (n + d) / 2 * n / d}, true)
	}
}

// wantQuotients are n / d for all numbers d, if n is in 1..MaxFactor and all of them are whole numbers of at least 1.
func wantQuotients(numbers []int, n int) ([]int, bool) {
	if n < 1 || n > million {
		return nil, false
	}
	quotients := []int{}
	for _, d := range numbers {
		if d < 1 || !big.NewRat(int64(n), int64(d)).IsInt() {
			return nil, false
		}
		quotients = append(quotients, n/d)
	}
	return quotients, true
}

func wantAuxiliaries(list []int, n int) ([]int, bool) {
	if sumsOf(list) == nil {
		return nil, false
	}
	return wantQuotients(list, n)
}

func wantFromAuxiliaries(numbers []int, n int) ([]int, bool) {
	list, ok := wantQuotients(numbers, n)
	if !ok || sumsOf(list) == nil {
		return nil, false
	}
	return list, true
}

func TestAuxiliariesByOracle(t *testing.T) {
	lists := slices.Concat(shortLists(), [][]int{powersOf2(5), powersOf2(20), powersOf2(21), manyDivisors, manyDivisors[1:]})
	for i := range lists {
		falling := slices.Clone(lists[i])
		slices.Reverse(falling)
		lists = append(lists, falling)
	}
	for _, c := range []struct {
		name, backName  string
		got, want, back func(list []int, n int) ([]int, bool)
	}{
		{"AuxiliariesOf", "FromAuxiliaries", impl.AuxiliariesOf, wantAuxiliaries, impl.FromAuxiliaries},
		{"FromAuxiliaries", "AuxiliariesOf", impl.FromAuxiliaries, wantFromAuxiliaries, impl.AuxiliariesOf},
	} {
		told := 0
		for _, list := range lists {
			for _, n := range []int{-12, 0, 1, 2, 6, 12, 24, 60, 840, 524288, 720720, 999999, million, million + 1, 1 << 20} {
				want, isTold := c.want(list, n)
				got, ok := c.got(list, n)
				checkList(t, c.name, []any{list, n}, got, ok, want, isTold)
				if isTold {
					back, ok := c.back(got, n)
					checkList(t, c.backName, []any{got, n}, back, ok, list, true)
					told++
				}
			}
		}
		if told < 500 {
			t.Error(c.name, "is told for too few lists", told)
		}
	}
}

// wantCompletion is what wantOver makes of the rest, if the list has none of it.
func wantCompletion(a impl.Fraction, list []int, n int) ([]int, bool) {
	x, sums := valueOf(a), sumsOf(list)
	if x == nil || sums == nil {
		return nil, false
	}
	rest, ok := wantFraction(new(big.Rat).Sub(x, sums[len(list)]))
	if !ok {
		return nil, false
	}
	terms, ok := wantOver(rest, n)
	for _, term := range terms {
		if slices.Contains(list, term) {
			return nil, false
		}
	}
	return terms, ok
}

func TestCompletionsByOracle(t *testing.T) {
	lists := slices.Concat(notExpansions, [][]int{nil, {billion}, {1}, {1, 2, 3, 6}, {7}, {2, 3, 7}, {4, 28}, {25}, fullList(23), fullList(24), powersOf2(24)})
	for set := 1; set < 1<<6; set++ {
		list := []int{}
		for k, term := range []int{2, 3, 4, 6, 10, 30} {
			if set>>k&1 == 1 {
				list = append(list, term)
			}
		}
		lists = append(lists, list)
	}
	fractions := append([]impl.Fraction{fraction(24, 25), fraction(479, 144), fraction(599, 180), fraction(100000, 1), fraction(100001, 1), fraction(1, billion), fraction(billion, 1)}, notFractions...)
	for den := 1; den <= 12; den++ {
		for num := 0; num <= 2*den+1; num++ {
			fractions = append(fractions, fraction(num, den))
		}
	}
	told := 0
	for _, a := range fractions {
		for _, list := range lists {
			for _, n := range []int{-12, 0, 1, 2, 6, 10, 12, 25, 28, 60, 70, 720, 2000, 2001} {
				want, isTold := wantCompletion(a, list, n)
				got, ok := impl.CompletionOf(a, list, n)
				checkList(t, "CompletionOf", []any{a, list, n}, got, ok, want, isTold)
				if !isTold {
					continue
				}
				sum := sumsOf(list)[len(list)]
				for _, term := range got {
					sum = new(big.Rat).Add(sum, unit(term))
				}
				if sum.Cmp(valueOf(a)) != 0 {
					t.Error("CompletionOf", a, list, n, got, "does not complete the list")
				}
				if len(got) > 0 && len(list) > 0 {
					told++
				}
			}
		}
	}
	if told < 1000 {
		t.Error("there are too few lists with completions", told)
	}
}

// wantProduct is the list of all products, if they make an expansion.
func wantProduct(a []int, b []int) ([]int, bool) {
	if sumsOf(a) == nil || sumsOf(b) == nil {
		return nil, false
	}
	terms := []int{}
	for _, d := range a {
		for _, e := range b {
			terms = append(terms, d*e)
		}
	}
	return wantList(terms)
}

// checkProduct checks a product, and that its sum is that of a times that of b.
func checkProduct(t *testing.T, name string, a, b []int, got []int, ok bool) {
	t.Helper()
	want, isTold := wantProduct(a, b)
	checkList(t, name, [][]int{a, b}, got, ok, want, isTold)
	if sums := sumsOf(got); ok && (sums == nil || new(big.Rat).Mul(sumsOf(a)[len(a)], sumsOf(b)[len(b)]).Cmp(sums[len(got)]) != 0) {
		t.Error(name, a, b, got, "has another sum")
	}
}

func TestProductsByOracle(t *testing.T) {
	lists := append(sampleLists(), []int{billion / 2}, []int{billion/2 + 1}, []int{166666666}, []int{166666667}, powersOf2(12), powersOf2(13), powersOf2(24))
	for i, a := range lists {
		halves, ok := impl.HalvesOf(a)
		checkProduct(t, "HalvesOf", a, []int{2}, halves, ok)
		// The sum of 2 and 6 is 2 / 3.
		thirds, ok := impl.TwoThirdsOf(a)
		checkProduct(t, "TwoThirdsOf", a, []int{2, 6}, thirds, ok)
		for j := i % 11; j < len(lists); j += 11 {
			product, ok := impl.ProductOf(a, lists[j])
			checkProduct(t, "ProductOf", a, lists[j], product, ok)
		}
	}
}

func TestSharesByOracle(t *testing.T) {
	check := func(loaves int, people int) {
		want, isTold := []int(nil), people >= 1 && people <= 1000 && loaves >= 0 && loaves <= people
		if isTold {
			want, isTold = wantGreedy(big.NewRat(int64(loaves), int64(people)), 1, 1)
		}
		got, ok := impl.SharesOf(loaves, people)
		checkList(t, "SharesOf", []int{loaves, people}, got, ok, want, isTold)
		if sums := sumsOf(got); ok && (sums == nil || sums[len(got)].Cmp(big.NewRat(int64(loaves), int64(people))) != 0) {
			t.Error("SharesOf", loaves, people, got, "has another sum")
		}
	}
	for people := -3; people <= 60; people++ {
		for loaves := -3; loaves <= people+3; loaves++ {
			check(loaves, people)
		}
	}
	for people := 990; people <= 1010; people++ {
		for loaves := -2; loaves <= people+2; loaves += 13 {
			check(loaves, people)
			check(people-loaves, people)
		}
	}
}

// Shares are the greedy expansions of chapter 2, for every number of people.
func TestSharesAreGreedy(t *testing.T) {
	for people := 1; people <= 1000; people++ {
		for loaves := 0; loaves <= people; loaves++ {
			a, _ := impl.MakeFraction(loaves, people)
			want, isTold := impl.GreedyExpansion(a)
			got, ok := impl.SharesOf(loaves, people)
			if !slices.Equal(got, want) || ok != isTold {
				t.Fatal("SharesOf", loaves, people, got, ok, want)
			}
		}
	}
}

package tests

import (
	"math/big"
	"slices"
	"sort"
	"testing"

	"loop.example/g01107/impl"
)

// Guarantee 2 once more: every function of chapter 2 against a second reading of the document with numbers of any size.

func unit(d int) *big.Rat {
	return big.NewRat(1, int64(d))
}

// leastFrom is the least d of least, least + gap, .. for which 1 / d is at most x. It may be greater than allowed.
func leastFrom(x *big.Rat, least int, gap int) int {
	i := sort.Search(2*billion, func(i int) bool { return unit(least+i*gap).Cmp(x) <= 0 })
	return least + i*gap
}

// wantSteps takes unit fractions away and tells all that is left, for as long as that is a fraction.
func wantSteps(x *big.Rat, least int, gap int) (terms []int, lefts []*big.Rat, ok bool) {
	lefts = append(lefts, x)
	for x.Sign() > 0 {
		d := leastFrom(x, least, gap)
		x = new(big.Rat).Sub(x, unit(d))
		if _, isOne := wantFraction(x); !isOne || d > billion {
			return nil, nil, false
		}
		terms, lefts, least = append(terms, d), append(lefts, x), d+gap
	}
	return terms, lefts, true
}

// wantGreedy is the list of wantSteps, if it is an expansion.
func wantGreedy(x *big.Rat, least int, gap int) ([]int, bool) {
	terms, _, ok := wantSteps(x, least, gap)
	if !ok || sumsOf(terms) == nil {
		return nil, false
	}
	return terms, true
}

// wantValue is what a list stands for whose products have the given signs in turn, or nil if one is too great or a sum is no fraction.
func wantValue(list []int, signs ...int64) *big.Rat {
	sum, product := new(big.Rat), big.NewInt(1)
	for i, number := range list {
		product.Mul(product, big.NewInt(int64(number)))
		if product.Cmp(big.NewInt(billion)) > 0 {
			return nil
		}
		sum = new(big.Rat).Add(sum, new(big.Rat).SetFrac(big.NewInt(signs[i%len(signs)]), product))
		if _, ok := wantFraction(sum); !ok {
			return nil
		}
	}
	return sum
}

// wantEngel is what an Engel list stands for, or nil for another list.
func wantEngel(list []int) *big.Rat {
	if len(list) > 24 || !slices.IsSorted(list) || len(list) > 0 && (list[0] < 2 || slices.Max(list) > billion) {
		return nil
	}
	return wantValue(list, 1)
}

// wantPierce is what a Pierce list stands for, or nil for another list.
func wantPierce(list []int) *big.Rat {
	n := len(list)
	if n > 24 || n > 0 && (list[0] < 1 || list[n-1] > billion) || n > 1 && list[n-1]-1 == list[n-2] {
		return nil
	}
	for i := 1; i < n; i++ {
		if list[i-1] >= list[i] {
			return nil
		}
	}
	return wantValue(list, 1, -1)
}

// wantEngelOf takes the greatest unit fraction that fits, and goes on with its multiple of what is left.
func wantEngelOf(x *big.Rat) ([]int, bool) {
	list := []int{}
	for x.Sign() > 0 && len(list) < 25 {
		u := leastFrom(x, 1, 1)
		list = append(list, u)
		x = new(big.Rat).Sub(x, unit(u))
		x.Mul(x, big.NewRat(int64(u), 1))
	}
	return list, wantEngel(list) != nil
}

// wantPierceOf takes the least unit fraction that does not fall short, and goes on with its multiple of what is too much.
func wantPierceOf(x *big.Rat) ([]int, bool) {
	list := []int{}
	for x.Sign() > 0 && len(list) < 25 {
		u := sort.Search(2*billion, func(u int) bool { return unit(u+1).Cmp(x) < 0 })
		list = append(list, u)
		x = new(big.Rat).Sub(unit(u), x)
		x.Mul(x, big.NewRat(int64(u), 1))
	}
	return list, wantPierce(list) != nil
}

// sampleFractions are fractions and others, small ones, and great ones whose lists are near a limit.
func sampleFractions() []impl.Fraction {
	all := borderFractions()
	for den := 1; den <= 70; den++ {
		for num := 0; num <= 2*den+1; num++ {
			all = append(all, fraction(num, den))
		}
	}
	// 1 / d with one more product: 10^9, and the numbers around it.
	for _, product := range []int{billion - 1, billion, billion + 1} {
		for d := 1; d <= 32000; d++ {
			if product%d == 0 {
				for _, x := range []*big.Rat{new(big.Rat).Add(unit(d), unit(product)), new(big.Rat).Sub(unit(d), unit(product))} {
					a, _ := wantFraction(x)
					all = append(all, a)
				}
			}
		}
	}
	for _, list := range sampleLists() {
		if sums := sumsOf(list); sums != nil {
			a, _ := wantFraction(sums[len(list)])
			all = append(all, a)
		}
	}
	for den := billion; den > billion-3; den-- {
		for num := 1; num < den; num = num*3 + 1 {
			all = append(all, fraction(num, den))
		}
	}
	return append(all, fraction(183, 247), fraction(122, 143), fraction(135, 143), fraction(52709, 666781500), fraction(3270251, 874874), fraction(39680449, 10498488))
}

func TestGreedyByOracle(t *testing.T) {
	for _, a := range sampleFractions() {
		x := valueOf(a)
		isBelow := x != nil && x.Cmp(unit(1)) < 0
		wantD, wantLeft, wantOK := 0, none, false
		if x != nil && x.Sign() > 0 {
			d := leastFrom(x, 1, 1)
			if left, ok := wantFraction(new(big.Rat).Sub(x, unit(d))); ok {
				wantD, wantLeft, wantOK = d, left, true
			}
		}
		if d, left, ok := impl.GreedyStep(a); d != wantD || left != wantLeft || ok != wantOK {
			t.Error("GreedyStep", a, d, left, ok, wantD, wantLeft)
		}
		want, wantOK := []int(nil), false
		if isBelow || a == fraction(1, 1) {
			want, wantOK = wantGreedy(x, 1, 1)
		}
		got, ok := impl.GreedyExpansion(a)
		checkList(t, "GreedyExpansion", a, got, ok, want, wantOK)
		numerators := []int(nil)
		if isBelow {
			if _, lefts, ok := wantSteps(x, 1, 1); ok {
				for _, left := range lefts {
					numerators = append(numerators, int(left.Num().Int64()))
				}
			}
		}
		got, ok = impl.NumeratorsOf(a)
		checkList(t, "NumeratorsOf", a, got, ok, numerators, numerators != nil)
	}
}

func TestGreedyFromByOracle(t *testing.T) {
	fractions := sampleFractions()
	for i, a := range fractions {
		x := valueOf(a)
		for _, least := range append([]int{6, 10, 31625}, borderInts...) {
			// Not every one of the many small fractions is needed for each least number.
			if a.Den <= 70 && least != 1 && least < 900 && i%7 != 0 {
				continue
			}
			want, wantOK := []int(nil), false
			if x != nil && least >= 1 && least <= billion {
				want, wantOK = wantGreedy(x, least, 1)
			}
			got, ok := impl.GreedyFrom(a, least)
			checkList(t, "GreedyFrom", []any{a, least}, got, ok, want, wantOK)
		}
	}
}

func TestOddGreedyByOracle(t *testing.T) {
	for _, a := range sampleFractions() {
		x := valueOf(a)
		terms, isThere := []int(nil), false
		if x != nil && x.Cmp(unit(1)) < 0 && a.Den%2 == 1 {
			terms, isThere = wantGreedy(x, 1, 2)
		}
		for most := -1; most <= 25; most++ {
			want, wantOK := []int(nil), isThere && len(terms) <= most && 0 <= most && most <= 24
			if wantOK {
				want = terms
			}
			got, ok := impl.OddGreedy(a, most)
			checkList(t, "OddGreedy", []any{a, most}, got, ok, want, wantOK)
		}
	}
}

// The numerators fall to 0, and the terms grow and have the told sum.
func TestGreedyNumeratorsFall(t *testing.T) {
	told := 0
	for _, a := range sampleFractions() {
		numerators, ok := impl.NumeratorsOf(a)
		if !ok {
			continue
		}
		told++
		if numerators[0] != a.Num || numerators[len(numerators)-1] != 0 {
			t.Error("NumeratorsOf", a, numerators)
		}
		for i := 1; i < len(numerators); i++ {
			if numerators[i] >= numerators[i-1] {
				t.Error("NumeratorsOf does not fall", a, numerators)
			}
		}
		terms, isTold := impl.GreedyExpansion(a)
		if sum, isOne := impl.SumOf(terms); !isTold || !isOne || sum != a || len(terms) != len(numerators)-1 {
			t.Error("GreedyExpansion", a, terms, isTold, sum)
		}
		if is, ok := impl.IsGreedy(terms); !is || !ok {
			t.Error("IsGreedy", terms, is, ok)
		}
		if holds, ok := impl.GrowthHolds(terms); !holds || !ok {
			t.Error("GrowthHolds", terms, holds, ok)
		}
	}
	if told < 1000 {
		t.Error("too few numerators were told:", told)
	}
}

func TestGreedyListsByOracle(t *testing.T) {
	for _, list := range sampleLists() {
		sums := sumsOf(list)
		is, isTold, grows := false, false, sums != nil
		if sums != nil && sums[len(list)].Cmp(unit(1)) <= 0 {
			greedy, ok := wantGreedy(sums[len(list)], 1, 1)
			is, isTold = ok && slices.Equal(greedy, list), ok
		}
		if got, ok := impl.IsGreedy(list); got != is || ok != isTold {
			t.Error("IsGreedy", list, got, ok, is, isTold)
		}
		for i := 1; i < len(list) && grows; i++ {
			grows = list[i] > list[i-1]*(list[i-1]-1)
		}
		if got, ok := impl.GrowthHolds(list); got != grows || ok != (sums != nil) {
			t.Error("GrowthHolds", list, got, ok)
		}
	}
}

func TestEngelAndPierceByOracle(t *testing.T) {
	for _, a := range sampleFractions() {
		x := valueOf(a)
		list, isOne := []int(nil), false
		if x != nil && x.Cmp(unit(1)) < 0 {
			list, isOne = wantEngelOf(x)
		}
		terms, product := []int{}, 1
		if !isOne {
			list, terms = nil, nil
		}
		for _, u := range list {
			product *= u
			terms = append(terms, product)
		}
		got, ok := impl.EngelOf(a)
		checkList(t, "EngelOf", a, got, ok, list, isOne)
		if back, isBack := impl.FromEngel(got); ok && (back != a || !isBack) {
			t.Error("FromEngel", got, back, isBack)
		}
		got, ok = impl.EngelTerms(a)
		checkList(t, "EngelTerms", a, got, ok, terms, isOne)
		if sum, isBack := impl.SumOf(got); ok && (sum != a || !isBack) {
			t.Error("EngelTerms", a, got, sum, isBack)
		}
		list, isOne = nil, false
		if x != nil && x.Cmp(unit(1)) <= 0 {
			if list, isOne = wantPierceOf(x); !isOne {
				list = nil
			}
		}
		got, ok = impl.PierceOf(a)
		checkList(t, "PierceOf", a, got, ok, list, isOne)
		if back, isBack := impl.FromPierce(got); ok && (back != a || !isBack) {
			t.Error("FromPierce", got, back, isBack)
		}
	}
}

// shortLists are all lists of up to four numbers in 0..8, and some of greater ones.
func shortLists() [][]int {
	lists := [][]int{nil}
	for from, length := 0, 0; length < 4; length++ {
		until := len(lists)
		for _, list := range lists[from:until] {
			for number := range 9 {
				lists = append(lists, append(slices.Clone(list), number))
			}
		}
		from = until
	}
	for _, u := range borderInts {
		for _, v := range borderInts {
			lists = append(lists, []int{u}, []int{u, v}, []int{2, u, v}, []int{u, v, 9})
		}
	}
	for n := range 40 {
		lists = append(lists, twos(n), fullList(n), upTo(n), append(upTo(n), n+2))
	}
	return append(lists, sampleLists()...)
}

// Every Engel and every Pierce list is told for what it stands for, so that no two stand for the same.
func TestEngelAndPierceListsByOracle(t *testing.T) {
	type kind struct {
		name string
		want func(list []int) *big.Rat
		from func(list []int) (impl.Fraction, bool)
		is   func(list []int) (bool, bool)
		of   func(a impl.Fraction) ([]int, bool)
	}
	for _, k := range []kind{
		{"Engel", wantEngel, impl.FromEngel, impl.IsEngel, impl.EngelOf},
		{"Pierce", wantPierce, impl.FromPierce, impl.IsPierce, impl.PierceOf},
	} {
		for _, list := range shortLists() {
			value := k.want(list)
			want, isOne := wantFraction(value)
			if got, ok := k.from(list); got != want || ok != isOne {
				t.Error("From"+k.name, list, got, ok, want)
			}
			if is, ok := k.is(list); is != isOne || !ok {
				t.Error("Is"+k.name, list, is, ok)
			}
			if isOne {
				got, ok := k.of(want)
				checkList(t, k.name+"Of", want, got, ok, list, true)
			}
		}
	}
}

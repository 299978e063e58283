package tests

import (
	"math/big"
	"slices"
	"sync"
	"testing"

	"loop.example/g01107/impl"
)

// Guarantee 5 once more: every function of chapter 5 against a second reading of the document that knows of no witnesses, and tries all first terms, and all lists of small ones.

// wantTwo goes through all first terms x with 1 / x less than the fraction num / den and at least half of it.
func wantTwo(num int, den int, greaterThan int) [][]int {
	lists := [][]int{}
	for x := max(den/num, greaterThan) + 1; x*num < 2*den; x++ {
		if over := x*num - den; x*den%over == 0 && x*den/over > x {
			lists = append(lists, []int{x, x * den / over})
		}
	}
	return lists
}

func wantThree(a impl.Fraction) [][]int {
	lists := [][]int{}
	for x := a.Den/a.Num + 1; x*a.Num < 3*a.Den; x++ {
		for _, two := range wantTwo(a.Num*x-a.Den, a.Den*x, x) {
			lists = append(lists, []int{x, two[0], two[1]})
		}
	}
	return lists
}

// checkSums looks at lists by themselves: they are expansions of the fraction, of k terms, one greater than that before it.
func checkSums(t *testing.T, name string, a impl.Fraction, k int, lists [][]int) {
	t.Helper()
	for i, list := range lists {
		if sums := sumsOf(list); len(list) != k || sums == nil || sums[k].Cmp(valueOf(a)) != 0 {
			t.Error(name, a, list, "is no expansion of it")
		}
		if i > 0 && slices.Compare(lists[i-1], list) >= 0 {
			t.Error(name, a, list, "is not in order")
		}
	}
}

// twoFractions are fractions and others, small ones, and such with a Den next to MaxTwo.
func twoFractions() []impl.Fraction {
	all := slices.Clone(sampleFractions())
	for den := 71; den <= 150; den++ {
		for num := 1; num <= 2*den+1; num++ {
			all = append(all, fraction(num, den))
		}
	}
	for _, den := range []int{5040, 7560, 9699, 15120, 18480, 19997, 19998, 19999, 20000, 20001, 20002} {
		for num := 1; num <= 2*den; num += 1 + num/3 {
			all = append(all, fraction(num, den), fraction(den+num, den))
		}
	}
	// Sums of two terms with a great Den.
	for x := 1; x <= 140; x += 3 {
		for y := x + 1; x*y <= 20200; y += 1 + y/2 {
			a, _ := wantFraction(new(big.Rat).Add(unit(x), unit(y)))
			all = append(all, a)
		}
	}
	return all
}

func isTwo(a impl.Fraction) bool {
	return valueOf(a) != nil && a.Num > 0 && a.Den <= 20000
}

func TestTwoTermsByOracle(t *testing.T) {
	for _, a := range twoFractions() {
		want := [][]int(nil)
		if isTwo(a) {
			want = wantTwo(a.Num, a.Den, 0)
		}
		got, ok := impl.TwoTerms(a)
		checkLists(t, "TwoTerms", a, got, ok, want, isTwo(a))
		checkSums(t, "TwoTerms", a, 2, got)
		if count, ok := impl.CountTwo(a); count != len(want) || ok != isTwo(a) {
			t.Error("CountTwo", a, count, ok, len(want))
		}
		// The least witness is that of the least first term: the Num times the term is the Den and the witness.
		witness, isThere := impl.TwoWitness(a)
		if isThere != (len(want) > 0) || isThere && witness != want[0][0]*a.Num-a.Den || !isThere && witness != 0 {
			t.Error("TwoWitness", a, witness, isThere, want)
		}
		for _, list := range want {
			if is, ok := impl.IsTwoWitness(a, list[0]*a.Num-a.Den); !is || !ok {
				t.Error("IsTwoWitness", a, list, is, ok)
			}
		}
	}
}

// A number is a witness by the document's own words, and there are as many of them as lists.
func TestWitnessesByOracle(t *testing.T) {
	for q := 1; q <= 36; q++ {
		for p := 1; p <= 2*q+1; p++ {
			a := fraction(p, q)
			if valueOf(a) == nil {
				continue
			}
			count := 0
			for d := -q*q - 3; d <= q*q+3; d++ {
				want := d >= 1 && d < q && q*q%d == 0 && (q+d)%p == 0 && (q+q*q/max(d, 1))%p == 0
				if is, ok := impl.IsTwoWitness(a, d); is != want || !ok {
					t.Error("IsTwoWitness", a, d, is, ok)
				}
				if want {
					count++
				}
				if least, ok := impl.TwoWitness(a); want && count == 1 && (least != d || !ok) {
					t.Error("TwoWitness", a, least, ok, d)
				}
			}
			if told, ok := impl.CountTwo(a); told != count || !ok {
				t.Error("CountTwo", a, told, ok, count)
			}
		}
	}
}

// All fractions with a Den up to MaxThree that may have lists, and some that have none.
func TestThreeTermsByOracle(t *testing.T) {
	most, least := 0, 1<<30
	for q := 1; q <= 123; q++ {
		for p := 0; p <= 2*q+1; p++ {
			a := fraction(p, q)
			isThree := valueOf(a) != nil && p > 0 && q <= 120
			want := [][]int(nil)
			if isThree {
				want = wantThree(a)
			}
			first, isThere := impl.FirstThree(a)
			if len(want) == 0 {
				checkList(t, "FirstThree", a, first, isThere, nil, false)
			} else {
				checkList(t, "FirstThree", a, first, isThere, want[0], true)
			}
			got, ok := impl.ThreeTerms(a)
			if len(want) > 1000 {
				least = min(least, len(want))
				checkLists(t, "ThreeTerms", a, got, ok, nil, false)
				continue
			}
			most = max(most, len(want))
			checkLists(t, "ThreeTerms", a, got, ok, want, isThree)
			checkSums(t, "ThreeTerms", a, 3, got)
		}
	}
	if most != 955 || least != 1013 {
		t.Error("the numbers of lists next to MaxFound are not as they were", most, least)
	}
}

// 4 / n is told for each n but 2, in lowest terms or not.
func TestFourOverByOracle(t *testing.T) {
	for n := -5; n <= 125; n++ {
		want, isTold := []int(nil), n > 2 && n <= 120
		if isTold {
			a, _ := wantFraction(big.NewRat(4, int64(n)))
			want = wantThree(a)[0]
		}
		got, ok := impl.FourOver(n)
		checkList(t, "FourOver", n, got, ok, want, isTold)
	}
}

// smallLists has, for each fraction and each number of terms from 1 on, all expansions of terms up to MaxSmall.
type smallLists map[impl.Fraction]*[6][][]int

// findSmall tries all lists of up to five terms: by sums modulo a prime number, and by fractions where these are the same.
func findSmall(all []impl.Fraction) smallLists {
	prime := new(big.Int).Sub(new(big.Int).Lsh(big.NewInt(1), 61), big.NewInt(1))
	remainder := func(x *big.Rat) uint64 {
		r := new(big.Int).ModInverse(x.Denom(), prime)
		return r.Mul(r, x.Num()).Mod(r, prime).Uint64()
	}
	found, byRemainder := smallLists{}, map[uint64]impl.Fraction{}
	for _, a := range all {
		found[a], byRemainder[remainder(valueOf(a))] = &[6][][]int{}, a
	}
	units := [61]uint64{}
	for d := 1; d <= 60; d++ {
		units[d] = remainder(unit(d))
	}
	list := []int{}
	var grow func(least int, sum uint64)
	grow = func(least int, sum uint64) {
		k := len(list)
		if a, ok := byRemainder[sum%prime.Uint64()]; ok && k > 0 && sumsOf(list)[k].Cmp(valueOf(a)) == 0 {
			found[a][k] = append(found[a][k], slices.Clone(list))
		}
		for d := least; k < 5 && d <= 60; d++ {
			list = append(list, d)
			grow(d+1, sum+units[d])
			list = list[:k]
		}
	}
	grow(1, 0)
	return found
}

// of are the expansions of k terms of at most most.
func (s smallLists) of(a impl.Fraction, k int, most int) [][]int {
	lists := [][]int{}
	for _, list := range s[a][k] {
		if list[k-1] <= most {
			lists = append(lists, list)
		}
	}
	return lists
}

// fewest is the least number of terms of at most most, or 0.
func (s smallLists) fewest(a impl.Fraction, most int) int {
	for k := 1; k <= 5; k++ {
		if len(s.of(a, k, most)) > 0 {
			return k
		}
	}
	return 0
}

// fewFractions have many lists, or few of them, or none.
func fewFractions() []impl.Fraction {
	all := []impl.Fraction{}
	for den := 1; den <= 13; den++ {
		for num := 1; num <= 5*den/2; num++ {
			if a := fraction(num, den); valueOf(a) != nil {
				all = append(all, a)
			}
		}
	}
	for i := 1; i <= 60; i += 7 {
		for _, list := range [][]int{{i}, {i, 60}, {i, i + 1, 59}, {i, i + 2, i + 3, 60}, {i, i + 1, i + 2, i + 4, i + 9}, {i, i + 10, i + 20, i + 30, 2*i + 40}} {
			if sums := sumsOf(list); sums != nil {
				a, _ := wantFraction(sums[len(list)])
				all = append(all, a)
			}
		}
	}
	return append(all, fraction(137, 60), fraction(151, 660), fraction(5, 24), fraction(7, 24), fraction(11, 60), fraction(47, 120), fraction(59, 60), fraction(61, 60),
		fraction(98855, 570024), fraction(1, 61), fraction(1, 3600), fraction(1, billion), fraction(billion-1, billion), fraction(billion, billion-1), fraction(billion, 1), fraction(billion/2, 999999999))
}

// few is found once, when it is asked for.
var few = sync.OnceValue(func() smallLists { return findSmall(fewFractions()) })

func TestFewTermsByOracle(t *testing.T) {
	for _, a := range fewFractions() {
		for k := 1; k <= 5; k++ {
			for _, most := range []int{1, 2, 3, 6, 12, 28, 44, 59, 60} {
				args := []any{a, k, most}
				want := few().of(a, k, most)
				got, ok := impl.FewTerms(a, k, most)
				checkLists(t, "FewTerms", args, got, ok, want, true)
				checkSums(t, "FewTerms", a, k, got)
				first, isThere := impl.FirstFew(a, k, most)
				if len(want) == 0 {
					checkList(t, "FirstFew", args, first, isThere, nil, false)
				} else {
					checkList(t, "FirstFew", args, first, isThere, want[0], true)
				}
				if count, ok := impl.CountFew(a, k, most); count != len(want) || !ok {
					t.Error("CountFew", args, count, ok, len(want))
				}
			}
		}
	}
}

func TestLeastGreatestByOracle(t *testing.T) {
	for _, a := range fewFractions() {
		for k := 1; k <= 5; k++ {
			want := 0
			for _, list := range few().of(a, k, 60) {
				if last := list[k-1]; want == 0 || last < want {
					want = last
				}
			}
			if least, ok := impl.LeastGreatest(a, k); least != want || ok != (want != 0) {
				t.Error("LeastGreatest", a, k, least, ok, want)
			}
		}
	}
}

func TestFewestTermsByOracle(t *testing.T) {
	for _, a := range fewFractions() {
		for most := 1; most <= 60; most += 1 + most/6 {
			want := few().fewest(a, most)
			if fewest, ok := impl.FewestTerms(a, most); fewest != want || ok != (want != 0) {
				t.Error("FewestTerms", a, most, fewest, ok, want)
			}
		}
	}
}

func TestIsShortestByOracle(t *testing.T) {
	told := map[bool]int{}
	for _, a := range fewFractions() {
		for k := 1; k <= 5; k++ {
			lists := few().of(a, k, 60)
			for i := 0; i < len(lists); i += 1 + len(lists)/12 {
				want := few().fewest(a, lists[i][k-1]) == k
				if is, ok := impl.IsShortest(lists[i]); is != want || !ok {
					t.Error("IsShortest", lists[i], is, ok)
				}
				told[want]++
			}
		}
	}
	if told[true] < 100 || told[false] < 100 {
		t.Error("there are too few lists of one kind", told)
	}
	for _, list := range slices.Concat(sampleLists(), shortLists()) {
		k := len(list)
		isOne := sumsOf(list) != nil && k >= 1 && k <= 5 && list[k-1] <= 60
		if is, ok := impl.IsShortest(list); ok != isOne || is && !ok {
			t.Error("IsShortest", list, is, ok)
		}
	}
}

// The lists of one, two and three terms are the same, whichever function tells them.
func TestFewTermsAgree(t *testing.T) {
	for _, a := range fewFractions() {
		upToSmall := func(lists [][]int) [][]int {
			return slices.DeleteFunc(lists, func(list []int) bool { return list[len(list)-1] > 60 })
		}
		if lists, ok := impl.TwoTerms(a); ok {
			got, ok := impl.FewTerms(a, 2, 60)
			checkLists(t, "FewTerms", a, got, ok, upToSmall(lists), true)
		}
		if lists, ok := impl.ThreeTerms(a); ok {
			got, ok := impl.FewTerms(a, 3, 60)
			checkLists(t, "FewTerms", a, got, ok, upToSmall(lists), true)
		}
	}
}

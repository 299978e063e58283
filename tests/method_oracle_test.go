package tests

import (
	"math/big"
	"slices"
	"testing"

	"loop.example/g01107/impl"
)

// Guarantee 3 once more: every function of chapter 3 against a second reading of the document with numbers of any size, and the bounds that it tells.

// methodFractions are fractions and others, small ones, and greater ones at which some method meets a limit.
func methodFractions() []impl.Fraction {
	all := slices.Clone(sampleFractions())
	for _, den := range []int{85, 99, 101, 300, 301, 302, 720, 1024, 1023, 1025, 5040, 31621, 31622, 31623, 31624, 44719, 44721, 44723, 44727, 52579, 1953125, 39916800, 479001599, 479001600, 999999937, billion - 1, billion} {
		for num := 1; num <= 30; num++ {
			for _, num := range []int{num, den - num, den/2 + num, den/30*num + 1} {
				if num > 0 && new(big.Int).GCD(nil, nil, big.NewInt(int64(num)), big.NewInt(int64(den))).Int64() == 1 {
					all = append(all, fraction(num, den))
				}
			}
		}
	}
	return append(all, fraction(1537323, 1953125), fraction(7362, 52579), fraction(19074, 1953125), fraction(6271, 7167), fraction(8127, 8135), fraction(6481, 8647), fraction(9421, 9725),
		fraction(1, 30517), fraction(1, 30519), fraction(30516, 30517), fraction(16253, 16511))
}

// wantProper is the value of a fraction greater than 0 and less than 1, and nil for others.
func wantProper(a impl.Fraction) *big.Rat {
	x := valueOf(a)
	if x == nil || x.Sign() <= 0 || x.Cmp(unit(1)) >= 0 {
		return nil
	}
	return x
}

// wantGolomb tells the steps of Golomb: the numbers that are taken, and what is left. With a rest r / s, 1 / (q s) is all that is missing.
func wantGolomb(x *big.Rat) (terms []*big.Int, rests []*big.Rat) {
	rests = append(rests, x)
	for x.Sign() > 0 && len(rests) <= 301 {
		p, q := x.Num(), x.Denom()
		s := new(big.Int).ModInverse(p, q)
		r := new(big.Int).Mul(p, s)
		left := new(big.Rat).SetFrac(r.Div(r, q), s)
		term := new(big.Rat).Inv(new(big.Rat).Sub(x, left))
		terms, rests, x = append(terms, term.Num()), append(rests, left), left
	}
	return terms, rests
}

// wantTerms are terms of any size, if they make an expansion.
func wantTerms(terms []*big.Int) ([]int, bool) {
	list := []int{}
	for _, term := range terms {
		if !term.IsInt64() {
			return nil, false
		}
		list = append(list, int(term.Int64()))
	}
	return wantList(list)
}

// wantBinary is a power of 2 with the quotient and the remainder of Num times it, and the terms by their digits.
func wantBinary(a impl.Fraction) (power, s, r *big.Int, terms []*big.Int) {
	den := big.NewInt(int64(a.Den))
	places := new(big.Int).Sub(den, big.NewInt(1)).BitLen()
	power = new(big.Int).Lsh(big.NewInt(1), uint(places))
	s, r = new(big.Int).DivMod(new(big.Int).Mul(big.NewInt(int64(a.Num)), power), den, new(big.Int))
	for place := range places + 1 {
		half := new(big.Int).Rsh(power, uint(place))
		if s.Bit(place) == 1 {
			terms = append(terms, half)
		}
		if r.Bit(place) == 1 {
			terms = append(terms, new(big.Int).Mul(half, den))
		}
	}
	return power, s, r, terms
}

// wantDigits takes as many as it can of 1 / 2!, 1 / 3!, .. in turn, and tells too which unit fractions these make.
func wantDigits(x *big.Rat) (digits, terms []int, ok bool) {
	left, factorial := new(big.Rat).Set(x), 1
	digits, terms = []int{}, []int{}
	for i := 2; i <= 12 && left.Sign() > 0; i++ {
		factorial *= i
		digit := wantUnder(new(big.Rat).Mul(left, big.NewRat(int64(factorial), 1)))
		taken := big.NewRat(int64(digit), int64(factorial))
		left.Sub(left, taken)
		digits = append(digits, digit)
		if digit > 0 {
			terms = append(terms, int(taken.Inv(taken).Num().Int64()))
		}
	}
	return digits, terms, left.Sign() == 0
}

// wantRounds counts how often each number stands there, and tells how many rounds have been made.
func wantRounds(a impl.Fraction, gone int, fresh func(d int) []int) (list []int, rounds int, ok bool) {
	if a.Num > 24 {
		return nil, 0, false
	}
	counts := map[int]int{a.Den: a.Num}
	for ; ; rounds++ {
		least := 0
		for d, count := range counts {
			if d > billion {
				return nil, rounds, false
			}
			if count > 1 && (least == 0 || d < least) {
				least = d
			}
		}
		if least == 0 {
			break
		}
		if rounds == 300 {
			return nil, rounds, false
		}
		counts[least] -= gone
		for _, d := range fresh(least) {
			counts[d]++
		}
	}
	for d, count := range counts {
		if count > 0 {
			list = append(list, d)
		}
	}
	list, ok = wantList(list)
	return list, rounds, ok
}

func pairOf(d int) []int {
	if d%2 == 0 {
		return []int{d / 2}
	}
	return []int{d/2 + 1, d * (d/2 + 1)}
}

func splitOf(d int) []int {
	return []int{d + 1, d*d + d}
}

func TestInversesByOracle(t *testing.T) {
	numbers := slices.Concat(borderInts, []int{999999937, 999999893, 16, 24, 60, 61, 30030})
	for p := range 130 {
		numbers = append(numbers, p)
	}
	for _, p := range numbers {
		for _, q := range numbers {
			want := 0
			if 1 <= p && p <= billion && 2 <= q && q <= billion {
				if s := new(big.Int).ModInverse(big.NewInt(int64(p)), big.NewInt(int64(q))); s != nil {
					want = int(s.Int64())
				}
			}
			got, ok := impl.InverseOf(p, q)
			if got != want || ok != (want != 0) {
				t.Error("InverseOf", p, q, got, ok, want)
			}
			if ok && (got < 1 || got >= q || (p*got-1)%q != 0) {
				t.Error("InverseOf is no inverse", p, q, got)
			}
		}
	}
}

func TestGolombByOracle(t *testing.T) {
	for _, a := range methodFractions() {
		x := wantProper(a)
		terms, rests := []*big.Int{}, []*big.Rat{}
		list, isOne := []int(nil), false
		if x != nil {
			terms, rests = wantGolomb(x)
			if list, isOne = wantTerms(terms); len(terms) > 24 || !isOne {
				list, isOne = nil, false
			}
		}
		got, ok := impl.GolombExpansion(a)
		checkList(t, "GolombExpansion", a, got, ok, list, isOne)
		if ok && (len(got) > a.Num || got[len(got)-1] > a.Den*(a.Den-1)) {
			t.Error("GolombExpansion is beyond its bounds", a, got)
		}
		d, left, ok := impl.GolombStep(a)
		if ok != (x != nil) || ok && (!terms[0].IsInt64() || int(terms[0].Int64()) != d || valueOf(left).Cmp(rests[1]) != 0) || !ok && (d != 0 || left != none) {
			t.Error("GolombStep", a, d, left, ok)
		}
		checkRests(t, a, rests)
	}
}

func checkRests(t *testing.T, a impl.Fraction, rests []*big.Rat) {
	t.Helper()
	got, ok := impl.GolombRests(a)
	if isTold := len(rests) > 0 && len(rests) <= 301; ok != isTold || ok && len(got) != len(rests) || !ok && got != nil {
		t.Fatal("GolombRests", a, got, ok)
	}
	for i, left := range got {
		if x := valueOf(left); x == nil || x.Cmp(rests[i]) != 0 {
			t.Error("GolombRests", a, i, left)
		}
		if i > 0 && (left.Num >= got[i-1].Num || left.Den >= got[i-1].Den) {
			t.Error("GolombRests does not fall", a, got)
		}
	}
}

func TestBinaryByOracle(t *testing.T) {
	for _, a := range methodFractions() {
		power, s, r := new(big.Int), new(big.Int), new(big.Int)
		list, isOne, x := []int(nil), false, wantProper(a)
		if x != nil {
			terms := []*big.Int{}
			power, s, r, terms = wantBinary(a)
			list, isOne = wantTerms(terms)
		}
		n, m, l, ok := impl.BinaryParts(a)
		if int64(n) != power.Int64() || int64(m) != s.Int64() || int64(l) != r.Int64() || ok != (x != nil) {
			t.Error("BinaryParts", a, n, m, l, ok, power, s, r)
		}
		if ok && (n < a.Den || n >= 2*a.Den || l >= a.Den || a.Num*n != a.Den*m+l) {
			t.Error("BinaryParts are wrong", a, n, m, l)
		}
		got, ok := impl.BinaryExpansion(a)
		checkList(t, "BinaryExpansion", a, got, ok, list, isOne)
	}
}

func TestFactorialsByOracle(t *testing.T) {
	for _, a := range methodFractions() {
		digits, terms, isOne := []int(nil), []int(nil), false
		if x := wantProper(a); x != nil {
			if digits, terms, isOne = wantDigits(x); !isOne {
				digits, terms = nil, nil
			}
		}
		got, ok := impl.FactorialDigits(a)
		checkList(t, "FactorialDigits", a, got, ok, digits, isOne)
		if back, isBack := impl.FromFactorial(got); ok && (back != a || !isBack) {
			t.Error("FromFactorial", got, back, isBack)
		}
		if n, isThere := impl.LeastFactorial(a.Den); ok && (!isThere || len(got) != n-1) {
			t.Error("LeastFactorial", a.Den, n, isThere, got)
		}
		got, ok = impl.FactorialExpansion(a)
		checkList(t, "FactorialExpansion", a, got, ok, terms, isOne)
	}
}

// FromFactorial takes all lists of few digits in their ranges, and no others.
func TestDigitsByOracle(t *testing.T) {
	lists := append(shortLists(), upTo(11), upTo(12), append(upTo(10), 10), append(upTo(10), 12))
	for _, list := range lists {
		want, factorial := new(big.Rat), int64(1)
		for k, digit := range list {
			if k >= 11 || digit < 0 || digit > k+1 {
				want = nil
				break
			}
			factorial *= int64(k + 2)
			want.Add(want, big.NewRat(int64(digit), factorial))
		}
		a, isOne := wantFraction(want)
		if got, ok := impl.FromFactorial(list); got != a || ok != isOne {
			t.Error("FromFactorial", list, got, ok, a)
		}
	}
}

func TestLeastFactorialByOracle(t *testing.T) {
	dens := slices.Clone(borderInts)
	for den := range 3000 {
		dens = append(dens, den, 479001600/(den+1), 39916800/(den+1))
	}
	for _, den := range dens {
		want, factorial := 0, 1
		for n := 1; n <= 12 && want == 0 && den > 0; n++ {
			factorial *= n
			if factorial/den*den == factorial {
				want = n
			}
		}
		if got, ok := impl.LeastFactorial(den); got != want || ok != (want != 0) {
			t.Error("LeastFactorial", den, got, ok, want)
		}
	}
}

func TestPairsAndSplitsOfFractionsByOracle(t *testing.T) {
	most := 0
	for _, a := range methodFractions() {
		pairs, arePairs, splits, areSplits, rounds := []int(nil), false, []int(nil), false, 0
		if wantProper(a) != nil {
			pairs, rounds, arePairs = wantRounds(a, 2, pairOf)
			splits, _, areSplits = wantRounds(a, 1, splitOf)
			most = max(most, rounds)
		}
		got, ok := impl.PairExpansion(a)
		checkList(t, "PairExpansion", a, got, ok, pairs, arePairs)
		if ok && len(got) > a.Num {
			t.Error("PairExpansion becomes more", a, got)
		}
		got, ok = impl.SplitExpansion(a)
		checkList(t, "SplitExpansion", a, got, ok, splits, areSplits)
		if ok && len(got) < a.Num {
			t.Error("SplitExpansion becomes less", a, got)
		}
	}
	if most < 40 {
		t.Error("no fraction needs many rounds:", most)
	}
}

// wantMerged merges the first pair that can be merged, and goes on with the rest.
func wantMerged(list []int) []int {
	for i, x := range list {
		for j := i + 1; j < len(list); j++ {
			if y := list[j]; x*y%(x+y) == 0 {
				if merged, ok := wantExchange(list, []int{i, j}, x*y/(x+y)); ok {
					return wantMerged(merged)
				}
			}
		}
	}
	return list
}

func TestMergesByOracle(t *testing.T) {
	lists := slices.Concat(sampleLists(), [][]int{{1627220, 4149411, 20747055, 78513365}, {5, 6, 12, 20}, {3, 6, 12}, {10, 15}, upTo(10)})
	base := []int{3, 4, 5, 6, 8, 10, 12, 15, 20, 24, 30}
	for set := range 1 << len(base) {
		list := []int{}
		for k, term := range base {
			if set>>k&1 == 1 {
				list = append(list, term)
			}
		}
		lists = append(lists, list)
	}
	for _, list := range lists {
		want, isOne := []int(nil), sumsOf(list) != nil
		if isOne {
			want = wantMerged(list)
		}
		got, ok := impl.MergeAll(list)
		checkList(t, "MergeAll", list, got, ok, want, isOne)
		before, _ := impl.SumOf(list)
		if sum, isSum := impl.SumOf(got); ok && (sum != before || !isSum) {
			t.Error("MergeAll has not kept the sum", list, got, sum)
		}
		for i := range got {
			for j := range got {
				if merged, ok := impl.MergePair(got, i, j); ok {
					t.Error("MergeAll leaves a pair", list, got, merged)
				}
			}
		}
	}
}

// comparedCalls are the methods of MethodSizes.
var comparedCalls = []func(a impl.Fraction) ([]int, bool){
	impl.GreedyExpansion, impl.GolombExpansion, impl.BinaryExpansion, impl.FactorialExpansion, impl.PairExpansion, impl.EngelTerms,
}

func TestMethodsByOracle(t *testing.T) {
	wins := make([]int, len(comparedCalls))
	for _, a := range methodFractions() {
		sizes, best, winner, isProper := []int(nil), []int(nil), -1, wantProper(a) != nil
		for i, call := range comparedCalls {
			if list, ok := call(a); isProper && ok {
				sizes = append(sizes, len(list))
				if winner < 0 || len(list) < len(best) {
					best, winner = list, i
				}
			} else if isProper {
				sizes = append(sizes, 0)
			}
		}
		if winner >= 0 {
			wins[winner]++
		}
		got, ok := impl.MethodSizes(a)
		checkList(t, "MethodSizes", a, got, ok, sizes, isProper)
		got, ok = impl.BestMethod(a)
		checkList(t, "BestMethod", a, got, ok, best, winner >= 0)
	}
	if slices.Min(wins) == 0 {
		t.Error("a method is never the best:", wins)
	}
}

// Each method that is told makes an expansion of different terms with the told sum.
func TestMethodsKeepTheSum(t *testing.T) {
	for _, a := range methodFractions() {
		for i, call := range append([]func(a impl.Fraction) ([]int, bool){impl.SplitExpansion, impl.BestMethod}, comparedCalls...) {
			list, ok := call(a)
			if !ok {
				continue
			}
			if sums := sumsOf(list); sums == nil || valueOf(a) == nil || sums[len(list)].Cmp(valueOf(a)) != 0 {
				t.Error("call", i, a, list, "has not the told sum")
			}
		}
	}
}

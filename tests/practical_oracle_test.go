package tests

import (
	"math/big"
	"slices"
	"testing"

	"loop.example/g01107/impl"
)

// Guarantee 4 once more: every function of chapter 4 against a second reading of the document, for all numbers and a margin around them, by sums that are bits of one great number and by all sets of divisors.

// isIn reports whether n is in 1..MaxNumber.
func isIn(n int) bool {
	return 1 <= n && n <= 2000
}

// wantDivisors are the divisors of n, found from both ends by their products.
func wantDivisors(n int) []int {
	less, greater := []int{}, []int{}
	for d := 1; isIn(n) && d*d <= n; d++ {
		if e := n / d; d*e == n {
			less = append(less, d)
			if d != e {
				greater = append(greater, e)
			}
		}
	}
	slices.Reverse(greater)
	return append(less, greater...)
}

func total(list []int) int {
	sum := 0
	for _, number := range list {
		sum += number
	}
	return sum
}

// wantSums has a bit 1 for each sum of the first divisors, however many of them are taken.
func wantSums(divisors []int) []*big.Int {
	sums := []*big.Int{big.NewInt(1)}
	for i, d := range divisors {
		with := new(big.Int).Lsh(sums[i], uint(d))
		sums = append(sums, with.Or(with, sums[i]))
	}
	return sums
}

// wantUnreached is the least number that is no sum, which for a practical number is greater than all sums.
func wantUnreached(n int) int {
	divisors := wantDivisors(n)
	all := wantSums(divisors)[len(divisors)]
	sum := 0
	for all.Bit(sum) == 1 {
		sum++
	}
	return sum
}

func wantPractical(n int) bool {
	return isIn(n) && wantUnreached(n) == total(wantDivisors(n))+1
}

// wantPrimes are the prime numbers of n, and how often each one divides it.
func wantPrimes(n int) (primes, counts []int) {
	for _, d := range wantDivisors(n) {
		if !big.NewInt(int64(d)).ProbablyPrime(0) {
			continue
		}
		count := 0
		for power := d; n%power == 0; power *= d {
			count++
		}
		primes, counts = append(primes, d), append(counts, count)
	}
	return primes, counts
}

// wantBreak goes through the prime numbers by the document's own words.
func wantBreak(n int) (prime, product int, ok bool) {
	product = 1
	primes, counts := wantPrimes(n)
	for i, p := range primes {
		if p > 1+total(wantDivisors(product)) {
			return p, product, true
		}
		for range counts[i] {
			product *= p
		}
	}
	return 0, 0, false
}

// wantGreatest takes each divisor, the greatest one first, if the less ones make the rest.
func wantGreatest(n int, sum int) ([]int, bool) {
	divisors := wantDivisors(n)
	sums := wantSums(divisors)
	if sums[len(divisors)].Bit(sum) == 0 {
		return nil, false
	}
	list := []int{}
	for i := len(divisors) - 1; i >= 0; i-- {
		if d := divisors[i]; d <= sum && sums[i].Bit(sum-d) == 1 {
			list, sum = append(list, d), sum-d
		}
	}
	return list, true
}

// wantWays counts the sets of divisors for each sum.
func wantWays(n int) []int {
	divisors := wantDivisors(n)
	ways := make([]int, total(divisors)+1)
	ways[0] = 1
	for _, d := range divisors {
		for sum := len(ways) - 1; sum >= d; sum-- {
			ways[sum] += ways[sum-d]
		}
	}
	return ways
}

func wantOver(a impl.Fraction, n int) ([]int, bool) {
	x := valueOf(a)
	if x == nil || !isIn(n) {
		return nil, false
	}
	times := new(big.Rat).Mul(x, big.NewRat(int64(n), 1))
	if !times.IsInt() || times.Cmp(big.NewRat(100000, 1)) > 0 {
		return nil, false
	}
	divisors, ok := wantGreatest(n, int(times.Num().Int64()))
	if !ok {
		return nil, false
	}
	terms := []int{}
	for _, d := range divisors {
		terms = append(terms, n/d)
	}
	return wantList(terms)
}

func TestDivisorsByOracle(t *testing.T) {
	for n := -10; n <= 2010; n++ {
		got, ok := impl.DivisorsOf(n)
		checkList(t, "DivisorsOf", n, got, ok, wantDivisors(n), isIn(n))
		if sum, ok := impl.DivisorSum(n); sum != total(wantDivisors(n)) || ok != isIn(n) {
			t.Error("DivisorSum", n, sum, ok)
		}
		primes, counts, ok := impl.PrimePowers(n)
		wantOnes, wantCounts := wantPrimes(n)
		checkList(t, "PrimePowers", n, primes, ok, wantOnes, isIn(n))
		checkList(t, "PrimePowers", n, counts, ok, wantCounts, isIn(n))
	}
}

func TestPracticalsByOracle(t *testing.T) {
	for n := -10; n <= 2010; n++ {
		is, ok := impl.IsPractical(n)
		if is != wantPractical(n) || ok != isIn(n) {
			t.Error("IsPractical", n, is, ok)
		}
		prime, product, isBroken := impl.BreakOf(n)
		if wantPrime, wantProduct, want := wantBreak(n); prime != wantPrime || product != wantProduct || isBroken != want {
			t.Error("BreakOf", n, prime, product, isBroken)
		}
		if ok && is == isBroken {
			t.Error("a number is practical exactly if it is not broken:", n)
		}
		want := 0
		if isIn(n) && !wantPractical(n) {
			want = wantUnreached(n)
		}
		if unreached, ok := impl.UnreachedOf(n); unreached != want || ok != (want != 0) || ok && unreached >= total(wantDivisors(n)) {
			t.Error("UnreachedOf", n, unreached, ok, want)
		}
	}
}

func TestPracticalListsByOracle(t *testing.T) {
	list := []int{}
	for n := range 2001 {
		if wantPractical(n) {
			list = append(list, n)
		}
	}
	for n := -10; n <= 2010; n++ {
		behind, isThere := slices.BinarySearch(list, n)
		if isThere {
			behind++
		}
		want := 0
		if isIn(n) && behind < len(list) {
			want = list[behind]
		}
		if next, ok := impl.NextPractical(n); next != want || ok != (want != 0) {
			t.Error("NextPractical", n, next, ok, want)
		}
		if n%37 == 0 || n < 100 || n > 1980 {
			got, ok := impl.PracticalsUpTo(n)
			upTo := list[:behind]
			if !isIn(n) {
				upTo = nil
			}
			checkList(t, "PracticalsUpTo", n, got, ok, upTo, isIn(n))
		}
	}
}

func TestPrimitivesByOracle(t *testing.T) {
	for n := -10; n <= 2010; n++ {
		want := wantPractical(n)
		primes, _ := wantPrimes(n)
		for _, p := range primes {
			want = want && (n/p == 1 || !wantPractical(n/p))
		}
		if is, ok := impl.IsPrimitive(n); is != want || ok != isIn(n) {
			t.Error("IsPrimitive", n, is, ok, want)
		}
	}
}

// With few divisors all sets of them can be looked at.
func TestSumsBySets(t *testing.T) {
	for n := 1; n <= 150; n++ {
		divisors := wantDivisors(n)
		slices.Reverse(divisors)
		if len(divisors) > 12 {
			continue
		}
		best, ways := map[int][]int{}, map[int]int{}
		for set := range 1 << len(divisors) {
			list := []int{}
			for i, d := range divisors {
				if set>>i&1 == 1 {
					list = append(list, d)
				}
			}
			sum := total(list)
			ways[sum]++
			if slices.Compare(list, best[sum]) > 0 || best[sum] == nil {
				best[sum] = list
			}
			if is, ok := impl.AreDivisorsFor(n, sum, list); !is || !ok {
				t.Fatal("AreDivisorsFor", n, sum, list, is, ok)
			}
			if is, ok := impl.AreDivisorsFor(n, sum+1, list); is || !ok {
				t.Fatal("AreDivisorsFor", n, sum+1, list, is, ok)
			}
		}
		for sum := range total(divisors) + 3 {
			got, ok := impl.DivisorsFor(n, sum)
			checkList(t, "DivisorsFor", []int{n, sum}, got, ok, best[sum], best[sum] != nil)
			if count, ok := impl.CountSums(n, sum); count != ways[sum] || !ok {
				t.Error("CountSums", n, sum, count, ok, ways[sum])
			}
		}
	}
}

// checkSum compares all that is told of one sum.
func checkSum(t *testing.T, n int, sum int, ways int) {
	t.Helper()
	got, ok := impl.DivisorsFor(n, sum)
	want, isReached := wantGreatest(n, sum)
	checkList(t, "DivisorsFor", []int{n, sum}, got, ok, want, isReached)
	if is, isAsked := impl.AreDivisorsFor(n, sum, got); is != isReached || !isAsked {
		t.Error("AreDivisorsFor", n, sum, got, is, isAsked)
	}
	if count, isTold := impl.CountSums(n, sum); count != ways || !isTold || (count > 0) != ok {
		t.Error("CountSums", n, sum, count, isTold, ways)
	}
}

func TestSumsByOracle(t *testing.T) {
	numbers := []int{1680, 1260, 1440, 1800, 1980, 1920, 840, 720, 770, 945, 1024, 1050, 1990, 1998, 1999, 2000}
	for n := 3; n <= 2000; n += 43 {
		numbers = append(numbers, n)
	}
	for _, n := range numbers {
		ways := wantWays(n)
		for sum := 0; sum < len(ways); sum += 1 + len(ways)/60 {
			checkSum(t, n, sum, ways[sum])
			checkSum(t, n, len(ways)-1-sum, ways[sum])
		}
		for _, sum := range []int{len(ways), len(ways) + 1, 99999, 100000} {
			checkSum(t, n, sum, 0)
		}
	}
}

// No number up to MaxNumber has a sum that passes MaxWays: the greatest count of all is told.
func TestGreatestCount(t *testing.T) {
	most, ofNumber, ofSum := 0, 0, 0
	for n := 1; n <= 2000; n++ {
		// With fewer divisors there are fewer sets of them.
		if len(wantDivisors(n)) < 28 {
			continue
		}
		for sum, count := range wantWays(n) {
			if count > most {
				most, ofNumber, ofSum = count, n, sum
			}
		}
	}
	if most < 1<<28 || most > 1000000000 {
		t.Error("the greatest count", most)
	}
	if got, ok := impl.CountSums(ofNumber, ofSum); got != most || !ok {
		t.Error("CountSums", ofNumber, ofSum, got, ok, most)
	}
}

// All sums together have all sets of divisors.
func TestCountsTogether(t *testing.T) {
	for _, n := range []int{1, 2, 7, 12, 70, 96, 120, 180, 360} {
		divisors, _ := impl.DivisorsOf(n)
		sum, all := 0, 0
		for ; sum <= total(divisors); sum++ {
			ways, ok := impl.CountSums(n, sum)
			if !ok {
				t.Error("CountSums", n, sum)
			}
			all += ways
		}
		if all != 1<<len(divisors) {
			t.Error("CountSums", n, all)
		}
	}
}

// overFractions are fractions and others, those with a Den that is a number mostly.
func overFractions() []impl.Fraction {
	all := slices.Clone(sampleFractions())
	for den := 1; den <= 40; den++ {
		for num := 0; num <= 4*den; num++ {
			all = append(all, fraction(num, den))
		}
	}
	for _, den := range []int{90, 96, 97, 360, 720, 840, 997, 1000, 1001, 1680, 1999, 2000, 2001} {
		for num := 1; num < 4*den; num += 1 + den/9 {
			all = append(all, fraction(num, den), fraction(den-1, den), fraction(den+1, den))
		}
	}
	return all
}

func TestExpansionsOverNumbersByOracle(t *testing.T) {
	for _, a := range overFractions() {
		for _, n := range []int{-12, 0, 1, 2, 12, 15, 36, 70, 97, 120, 360, 720, 1998, 2000, 2001, a.Den, 2 * a.Den, -a.Den} {
			got, ok := impl.ExpandOver(a, n)
			want, isTold := wantOver(a, n)
			checkList(t, "ExpandOver", []any{a, n}, got, ok, want, isTold)
			if sums := sumsOf(got); ok && (sums == nil || sums[len(got)].Cmp(valueOf(a)) != 0) {
				t.Error("ExpandOver has not the told sum", a, n, got)
			}
		}
	}
}

func TestLeastOverByOracle(t *testing.T) {
	for _, a := range overFractions() {
		want := 0
		for n := 1; n <= 2000 && want == 0 && valueOf(a) != nil; n++ {
			if n%a.Den == 0 {
				if _, ok := wantOver(a, n); ok {
					want = n
				}
			}
		}
		if got, ok := impl.LeastOver(a); got != want || ok != (want != 0) {
			t.Error("LeastOver", a, got, ok, want)
		}
	}
}

func TestPracticalExpansionByOracle(t *testing.T) {
	for _, a := range overFractions() {
		want, isTold := []int(nil), false
		if x := valueOf(a); x != nil && x.Cmp(unit(1)) < 0 {
			for n := 1; n <= 2000; n++ {
				if n%a.Den == 0 && wantPractical(n) {
					want, isTold = wantOver(a, n)
					break
				}
			}
		}
		got, ok := impl.PracticalExpansion(a)
		checkList(t, "PracticalExpansion", a, got, ok, want, isTold)
	}
}

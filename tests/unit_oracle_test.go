package tests

import (
	"math"
	"math/big"
	"slices"
	"sort"
	"strconv"
	"strings"
	"testing"

	"loop.example/g01107/impl"
)

// Guarantee 1 once more: every function of chapter 1 against a second reading of the document with numbers of any size.

// borderInts are the numbers at which a bound or int itself ends.
var borderInts = []int{
	math.MinInt, math.MinInt + 1, -quintillion, -billion, -2, -1, 0, 1, 2, 3, 4, 5, 6, 7, 12, 999, 1000, 1001, 31622, 31623,
	billion / 2, billion/2 + 1, billion - 1, billion, billion + 1, quintillion - 1, quintillion, quintillion + 1, math.MaxInt - 1, math.MaxInt,
}

// wantFraction is the fraction with the value of r, if there is one.
func wantFraction(r *big.Rat) (impl.Fraction, bool) {
	limit := big.NewInt(billion)
	if r == nil || r.Sign() < 0 || r.Num().Cmp(limit) > 0 || r.Denom().Cmp(limit) > 0 {
		return none, false
	}
	return fraction(int(r.Num().Int64()), int(r.Denom().Int64())), true
}

// valueOf is the value of a, or nil if a is no fraction.
func valueOf(a impl.Fraction) *big.Rat {
	if a.Den == 0 {
		return nil
	}
	r := big.NewRat(1, 1).SetFrac(big.NewInt(int64(a.Num)), big.NewInt(int64(a.Den)))
	if want, ok := wantFraction(r); !ok || want != a {
		return nil
	}
	return r
}

// sumsOf are the sums of the first terms of an expansion, or nil for another list.
func sumsOf(list []int) []*big.Rat {
	return sumsApart(list, 1)
}

// sumsApart are the sums of the first numbers of a list in which each one is greater at least by gap than that before it, or nil for another list.
func sumsApart(list []int, gap int) []*big.Rat {
	sums := []*big.Rat{new(big.Rat)}
	for i, term := range list {
		if i >= 24 || term < 1 || term > billion || i > 0 && term-gap < list[i-1] {
			return nil
		}
		sum := new(big.Rat).Add(sums[i], big.NewRat(1, int64(term)))
		if _, ok := wantFraction(sum); !ok {
			return nil
		}
		sums = append(sums, sum)
	}
	return sums
}

// wantList is a list of terms that are in no order, if they make an expansion.
func wantList(terms []int) ([]int, bool) {
	list := slices.Clone(terms)
	sort.Ints(list)
	if sumsOf(list) == nil {
		return nil, false
	}
	return list, true
}

func borderFractions() []impl.Fraction {
	list := []impl.Fraction{}
	for _, num := range borderInts {
		for _, den := range borderInts {
			a := fraction(num, den)
			// All others are no fractions in the same way.
			if valueOf(a) != nil || num < 3 && den < 3 || num == den || num == den+1 || num+1 == den {
				list = append(list, a)
			}
		}
	}
	return list
}

func TestFractionsByOracle(t *testing.T) {
	for _, num := range borderInts {
		for _, den := range borderInts {
			a := fraction(num, den)
			if impl.IsFraction(a) != (valueOf(a) != nil) {
				t.Error("IsFraction", a)
			}
			want, wantOK := none, false
			if num >= 0 && den >= 1 && num <= quintillion && den <= quintillion {
				want, wantOK = wantFraction(big.NewRat(int64(num), int64(den)))
			}
			if got, ok := impl.MakeFraction(num, den); got != want || ok != wantOK {
				t.Error("MakeFraction", num, den, got, ok, want)
			}
		}
	}
}

func TestPairsByOracle(t *testing.T) {
	type call struct {
		name string
		got  func(a, b impl.Fraction) (impl.Fraction, bool)
		want func(x, y *big.Rat) *big.Rat
	}
	calls := []call{
		{"AddFractions", impl.AddFractions, func(x, y *big.Rat) *big.Rat { return new(big.Rat).Add(x, y) }},
		{"SubtractFractions", impl.SubtractFractions, func(x, y *big.Rat) *big.Rat { return new(big.Rat).Sub(x, y) }},
		{"MultiplyFractions", impl.MultiplyFractions, func(x, y *big.Rat) *big.Rat { return new(big.Rat).Mul(x, y) }},
		{"DivideFractions", impl.DivideFractions, func(x, y *big.Rat) *big.Rat {
			if y.Sign() == 0 {
				return nil
			}
			return new(big.Rat).Quo(x, y)
		}},
	}
	all := borderFractions()
	for _, a := range all {
		for _, b := range all {
			x, y := valueOf(a), valueOf(b)
			for _, c := range calls {
				want, wantOK := none, false
				if x != nil && y != nil {
					want, wantOK = wantFraction(c.want(x, y))
				}
				if got, ok := c.got(a, b); got != want || ok != wantOK {
					t.Fatal(c.name, a, b, got, ok, want, wantOK)
				}
			}
			want, wantOK := 0, x != nil && y != nil
			if wantOK {
				want = x.Cmp(y)
			}
			if got, ok := impl.CompareFractions(a, b); got != want || ok != wantOK {
				t.Fatal("CompareFractions", a, b, got, ok, want)
			}
		}
	}
}

// wantUnder is the greatest whole number that is at most x.
func wantUnder(x *big.Rat) int {
	return int(new(big.Int).Div(x.Num(), x.Denom()).Int64())
}

func TestWholesAndTextsByOracle(t *testing.T) {
	for _, a := range borderFractions() {
		x := valueOf(a)
		floor, ceiling, text := 0, 0, ""
		if x != nil {
			floor = wantUnder(x)
			ceiling = -wantUnder(new(big.Rat).Neg(x))
			text = x.RatString()
		}
		if got, ok := impl.FloorOf(a); got != floor || ok != (x != nil) {
			t.Error("FloorOf", a, got, ok)
		}
		if got, ok := impl.CeilingOf(a); got != ceiling || ok != (x != nil) {
			t.Error("CeilingOf", a, got, ok)
		}
		if got, ok := impl.FractionText(a); got != text || ok != (x != nil) {
			t.Error("FractionText", a, got, ok)
		}
		for _, s := range []string{strconv.Itoa(a.Num), strconv.Itoa(a.Num) + "/" + strconv.Itoa(a.Den)} {
			want := none
			if b := fraction(a.Num, 1); s == strconv.Itoa(a.Num) && valueOf(b) != nil {
				want = b
			} else if x != nil && s == text {
				want = a
			}
			if got, ok := impl.ParseFraction(s); got != want || ok != (want != none) {
				t.Error("ParseFraction", s, got, ok)
			}
		}
	}
}

// sampleLists are expansions and other lists, many of which are at some limit.
func sampleLists() [][]int {
	lists := [][]int{
		nil, {1}, {2}, {2, 4, 20}, {billion}, {512, 1953125}, {1, billion - 1}, {499999998, 999999996},
		{30000, 60000}, {30001, 900030000}, {60000}, {19019, 52631579}, {333333340, 500000010}, {999000}, {1001000},
		{1627220, 13831370, 20747055, 78513365}, {24689617, 222206553}, {3, 4, 6}, {100000001},
		{31622}, {31623}, {333333332}, {333333334}, fullList(22), fullList(23), fullList(24),
	}
	lists = append(lists, notExpansions...)
	for set := 0; set < 1<<9; set++ {
		list := []int{}
		for k, term := range []int{1, 2, 3, 4, 6, 10, 12, 15, 30} {
			if set>>k&1 == 1 {
				list = append(list, term)
			}
		}
		lists = append(lists, list)
	}
	return lists
}

func TestListsByOracle(t *testing.T) {
	for _, list := range sampleLists() {
		sums := sumsOf(list)
		isOne := sums != nil
		if impl.IsExpansion(list) != isOne {
			t.Error("IsExpansion", list)
		}
		sum, multiple, words := none, big.NewInt(1), []string{}
		if isOne {
			sum, _ = wantFraction(sums[len(list)])
			for _, term := range list {
				d := big.NewInt(int64(term))
				multiple.Div(new(big.Int).Mul(multiple, d), new(big.Int).GCD(nil, nil, multiple, d))
			}
		}
		for _, term := range list {
			words = append(words, strconv.Itoa(term))
		}
		if got, ok := impl.SumOf(list); got != sum || ok != isOne {
			t.Error("SumOf", list, got, ok)
		}
		want, wantOK := 0, isOne && multiple.Cmp(big.NewInt(billion)) <= 0
		if wantOK {
			want = int(multiple.Int64())
		}
		if got, ok := impl.CommonMultiple(list); got != want || ok != wantOK {
			t.Error("CommonMultiple", list, got, ok)
		}
		text, wantText := strings.Join(words, "+"), ""
		parsed, parsedOK := impl.ParseExpansion(text)
		if isOne {
			wantText = text
			checkList(t, "ParseExpansion", text, parsed, parsedOK, list, true)
		} else {
			checkList(t, "ParseExpansion", text, parsed, parsedOK, nil, false)
		}
		if got, ok := impl.ExpansionText(list); got != wantText || ok != isOne {
			t.Error("ExpansionText", list, got, ok)
		}
	}
}

// wantExchange is the expansion with the fresh terms in place of those with the given indices, if they are new.
func wantExchange(list []int, left []int, fresh ...int) ([]int, bool) {
	terms := []int{}
	for i, term := range list {
		if !slices.Contains(left, i) {
			terms = append(terms, term)
		}
	}
	return wantList(append(terms, fresh...))
}

func checkExchange(t *testing.T, name string, args any, got []int, ok bool, list, want []int, wantOK bool) {
	t.Helper()
	checkList(t, name, args, got, ok, want, wantOK)
	if !ok {
		return
	}
	was, now := sumsOf(list), sumsOf(got)
	if was == nil || now == nil || was[len(list)].Cmp(now[len(got)]) != 0 {
		t.Error(name, args, list, "has not kept its sum in", got)
	}
}

func TestSplitsAndMergesByOracle(t *testing.T) {
	indices := []int{math.MinInt, -1, 0, 1, 2, 3, 22, 23, 24, math.MaxInt}
	for _, list := range sampleLists() {
		isOne := sumsOf(list) != nil
		for _, i := range indices {
			isTerm := isOne && i >= 0 && i < len(list)
			want, wantOK := []int(nil), false
			if isTerm && list[i] > 1 {
				want, wantOK = wantExchange(list, []int{i}, list[i]+1, list[i]*(list[i]+1))
			}
			got, ok := impl.SplitTerm(list, i)
			checkExchange(t, "SplitTerm", []any{list, i}, got, ok, list, want, wantOK)
			for _, j := range indices {
				want, wantOK = nil, false
				if isTerm && i < j && j < len(list) {
					x, y := list[i], list[j]
					if x*y%(x+y) == 0 {
						want, wantOK = wantExchange(list, []int{i, j}, x*y/(x+y))
					}
				}
				got, ok = impl.MergePair(list, i, j)
				checkExchange(t, "MergePair", []any{list, i, j}, got, ok, list, want, wantOK)
			}
		}
	}
}

func TestSplitByByOracle(t *testing.T) {
	for _, list := range sampleLists() {
		isOne := sumsOf(list) != nil
		for _, i := range []int{-1, 0, 1, 22, 23} {
			for _, p := range append([]int{47, 30, 31}, borderInts...) {
				for _, q := range append([]int{971, 30, 31}, borderInts...) {
					want, wantOK := []int(nil), false
					if isOne && i >= 0 && i < len(list) && 1 <= p && p < q && q <= 1000 {
						d := list[i]
						if d*(p+q)%p == 0 && d*(p+q)%q == 0 {
							want, wantOK = wantExchange(list, []int{i}, d*(p+q)/p, d*(p+q)/q)
						}
					}
					got, ok := impl.SplitBy(list, i, p, q)
					checkExchange(t, "SplitBy", []any{list, i, p, q}, got, ok, list, want, wantOK)
				}
			}
		}
	}
}

func TestScalesByOracle(t *testing.T) {
	factors := append([]int{100000001, 166666666, 166666667, 200000001}, borderInts...)
	for _, list := range sampleLists() {
		for _, by := range factors {
			want, wantOK := []int(nil), false
			if sumsOf(list) != nil && by >= 1 && by <= billion {
				for _, term := range list {
					want = append(want, term*by)
				}
				want, wantOK = wantList(want)
			}
			got, ok := impl.ScaleExpansion(list, by)
			checkList(t, "ScaleExpansion", []any{list, by}, got, ok, want, wantOK)
		}
	}
}

func TestTwoListsByOracle(t *testing.T) {
	lists := sampleLists()
	for i, a := range lists {
		for j, b := range lists {
			// Not every pair of the many small ones is needed.
			if i > 60 && j > 60 && (i*31+j)%7 != 0 {
				continue
			}
			areOnes := sumsOf(a) != nil && sumsOf(b) != nil
			want, wantOK, isPart := []int(nil), false, areOnes
			if areOnes {
				want = append(want, a...)
				for _, term := range b {
					if !slices.Contains(a, term) {
						want = append(want, term)
					}
				}
				want, wantOK = wantList(want)
				for _, term := range a {
					isPart = isPart && slices.Contains(b, term)
				}
			}
			got, ok := impl.UniteExpansions(a, b)
			checkList(t, "UniteExpansions", []any{a, b}, got, ok, want, wantOK)
			if got, ok := impl.IsPartOf(a, b); got != isPart || ok != areOnes {
				t.Error("IsPartOf", a, b, got, ok)
			}
		}
	}
}

func TestRestsByOracle(t *testing.T) {
	fractions := borderFractions()
	for _, list := range sampleLists() {
		sums := sumsOf(list)
		for _, a := range fractions {
			want, wantOK := none, false
			if x := valueOf(a); x != nil && sums != nil {
				want, wantOK = wantFraction(new(big.Rat).Sub(x, sums[len(list)]))
			}
			if got, ok := impl.RestOf(a, list); got != want || ok != wantOK {
				t.Fatal("RestOf", a, list, got, ok, want, wantOK)
			}
		}
	}
}

package impl

import (
	"cmp"
	"slices"
	"strconv"
	"strings"
)

const MaxPart = 1000000000
const MaxTerms = 24

// maxRaw bounds the arguments of MakeFraction, which may be greater than the parts of a fraction.
const maxRaw = 1000000000000000000

type Fraction struct {
	Num int
	Den int
}

// IsFraction reports whether a is a fraction.
func IsFraction(a Fraction) bool {
	if a.Num < 0 || a.Den < 1 {
		return false
	}
	lowest, ok := reduce(a.Num, a.Den)
	return ok && lowest == a
}

// MakeFraction returns the fraction num / den, num in 0..1000000000000000000 and den in 1..1000000000000000000.
func MakeFraction(num int, den int) (Fraction, bool) {
	if num < 0 || num > maxRaw || den < 1 || den > maxRaw {
		return Fraction{}, false
	}
	return reduce(num, den)
}

// AddFractions returns a + b.
func AddFractions(a Fraction, b Fraction) (Fraction, bool) {
	if !IsFraction(a) || !IsFraction(b) {
		return Fraction{}, false
	}
	return reduce(a.Num*b.Den+b.Num*a.Den, a.Den*b.Den)
}

// SubtractFractions returns a - b. It fails if b is greater.
func SubtractFractions(a Fraction, b Fraction) (Fraction, bool) {
	order, ok := CompareFractions(a, b)
	if !ok || order < 0 {
		return Fraction{}, false
	}
	return reduce(a.Num*b.Den-b.Num*a.Den, a.Den*b.Den)
}

// MultiplyFractions returns the product.
func MultiplyFractions(a Fraction, b Fraction) (Fraction, bool) {
	if !IsFraction(a) || !IsFraction(b) {
		return Fraction{}, false
	}
	return reduce(a.Num*b.Num, a.Den*b.Den)
}

// DivideFractions returns a divided by b. It fails if b is 0.
func DivideFractions(a Fraction, b Fraction) (Fraction, bool) {
	if !IsFraction(a) || !IsFraction(b) || b.Num == 0 {
		return Fraction{}, false
	}
	return reduce(a.Num*b.Den, a.Den*b.Num)
}

// CompareFractions returns -1, 0 or 1 if a is less than, equal to or greater than b.
func CompareFractions(a Fraction, b Fraction) (int, bool) {
	if !IsFraction(a) || !IsFraction(b) {
		return 0, false
	}
	return cmp.Compare(a.Num*b.Den, b.Num*a.Den), true
}

// FloorOf returns the greatest whole number that is at most a.
func FloorOf(a Fraction) (int, bool) {
	if !IsFraction(a) {
		return 0, false
	}
	return a.Num / a.Den, true
}

// CeilingOf returns the least whole number that is at least a.
func CeilingOf(a Fraction) (int, bool) {
	if !IsFraction(a) {
		return 0, false
	}
	return (a.Num + a.Den - 1) / a.Den, true
}

// IsExpansion reports whether list is an expansion.
func IsExpansion(list []int) bool {
	_, ok := SumOf(list)
	return ok
}

// SumOf returns the sum of 1 / d over all terms d.
func SumOf(list []int) (Fraction, bool) {
	if !isRising(list, 1, 1) {
		return Fraction{}, false
	}
	return addUnits(list)
}

// CommonMultiple returns the least number of at least 1 that all terms divide. It fails if it is greater than MaxPart.
func CommonMultiple(list []int) (int, bool) {
	if !IsExpansion(list) {
		return 0, false
	}
	multiple := 1
	for _, term := range list {
		multiple *= term / commonDivisor(multiple, term)
		// It never falls, and left to grow it could leave int.
		if multiple > MaxPart {
			return 0, false
		}
	}
	return multiple, true
}

// SplitTerm returns the expansion with d + 1 and d (d + 1) in place of the term d with the index i. It fails if d is 1, and if one of both is there already.
func SplitTerm(list []int, i int) ([]int, bool) {
	if !IsExpansion(list) || !isIndex(list, i) {
		return nil, false
	}
	// For the term 1 both would be 2, so that the second one is there already.
	d := list[i]
	return putInto(withoutIndices(list, i), d+1, d*(d+1))
}

// SplitBy returns the expansion in which the term d with the index i is replaced by d (p + q) / p and d (p + q) / q, for p and q in 1..1000 with p < q, if both are whole numbers: their unit fractions have the sum 1 / d. It fails otherwise, and if one of both is there already.
func SplitBy(list []int, i int, p int, q int) ([]int, bool) {
	if !IsExpansion(list) || !isIndex(list, i) || p < 1 || p >= q || q > 1000 {
		return nil, false
	}
	raised := list[i] * (p + q)
	if raised%p != 0 || raised%q != 0 {
		return nil, false
	}
	return putInto(withoutIndices(list, i), raised/p, raised/q)
}

// MergePair returns the expansion with one term in place of the terms with the indices i < j whose unit fractions have the same sum as its own. It fails if there is no such term, or if it is there already.
func MergePair(list []int, i int, j int) ([]int, bool) {
	if !IsExpansion(list) || !isIndex(list, i) || !isIndex(list, j) || i >= j {
		return nil, false
	}
	product, sum := list[i]*list[j], list[i]+list[j]
	if product%sum != 0 {
		return nil, false
	}
	return putInto(withoutIndices(list, i, j), product/sum)
}

// ScaleExpansion returns the expansion with by times each term, by in 1..MaxPart.
func ScaleExpansion(list []int, by int) ([]int, bool) {
	if !IsExpansion(list) || by < 1 || by > MaxPart {
		return nil, false
	}
	scaled := make([]int, len(list))
	for i, term := range list {
		scaled[i] = by * term
	}
	return ifExpansion(scaled)
}

// UniteExpansions returns the terms that are in one of both or in both, strictly increasing.
func UniteExpansions(a []int, b []int) ([]int, bool) {
	if !IsExpansion(a) || !IsExpansion(b) {
		return nil, false
	}
	united := []int{}
	for _, term := range slices.Concat(a, b) {
		if grown, isNew := putIn(united, term); isNew {
			united = grown
		}
	}
	return ifExpansion(united)
}

// IsPartOf reports whether all terms of a are terms of b.
func IsPartOf(a []int, b []int) (bool, bool) {
	if !IsExpansion(a) || !IsExpansion(b) {
		return false, false
	}
	for _, term := range a {
		if !slices.Contains(b, term) {
			return false, true
		}
	}
	return true, true
}

// RestOf returns a less the sum of an expansion. It fails if that is greater than a.
func RestOf(a Fraction, list []int) (Fraction, bool) {
	sum, ok := SumOf(list)
	if !ok {
		return Fraction{}, false
	}
	return SubtractFractions(a, sum)
}

// FractionText returns the Num in decimal and, unless Den is 1, a / and the Den.
func FractionText(a Fraction) (string, bool) {
	if !IsFraction(a) {
		return "", false
	}
	return fractionText(a), true
}

// ParseFraction returns the fraction with a FractionText. It fails if there is none.
func ParseFraction(s string) (Fraction, bool) {
	above, below, isDivided := strings.Cut(s, "/")
	num, ok := parseNumber(above)
	if !ok {
		return Fraction{}, false
	}
	a := Fraction{Num: num, Den: 1}
	if isDivided {
		den, ok := parseNumber(below)
		// A Den of 1 is never written.
		if !ok || den == 1 {
			return Fraction{}, false
		}
		a.Den = den
	}
	if !IsFraction(a) {
		return Fraction{}, false
	}
	return a, true
}

// ExpansionText returns the terms in decimal with + between them; it is empty without terms.
func ExpansionText(list []int) (string, bool) {
	if !IsExpansion(list) {
		return "", false
	}
	return joinNumbers(list), true
}

// ParseExpansion returns the expansion with an ExpansionText. It fails if there is none.
func ParseExpansion(s string) ([]int, bool) {
	if s == "" {
		return []int{}, true
	}
	list := []int{}
	// One word more than allowed is enough to see that there are too many, however long the text is.
	for _, word := range strings.SplitN(s, "+", MaxTerms+1) {
		term, ok := parseNumber(word)
		if !ok {
			return nil, false
		}
		list = append(list, term)
	}
	return ifExpansion(list)
}

// reduce returns num / den in lowest terms, for num of at least 0 and den of at least 1, unless its parts are too great.
func reduce(num int, den int) (Fraction, bool) {
	common := commonDivisor(num, den)
	lowest := Fraction{Num: num / common, Den: den / common}
	if lowest.Num > MaxPart || lowest.Den > MaxPart {
		return Fraction{}, false
	}
	return lowest, true
}

func commonDivisor(a int, b int) int {
	for b != 0 {
		a, b = b, a%b
	}
	return a
}

// isRising reports whether a list has at most MaxTerms numbers of at most MaxPart, the first one at least least, and each other one greater by at least by than that before it.
func isRising(list []int, least int, by int) bool {
	if len(list) > MaxTerms {
		return false
	}
	for _, number := range list {
		if number < least || number > MaxPart {
			return false
		}
		least = number + by
	}
	return true
}

// addUnits returns the sum of 1 / d over all numbers d of a list of numbers of at least 1. It fails if the sum of its first ones is no fraction, however many of them are taken.
func addUnits(list []int) (Fraction, bool) {
	sum := Fraction{Num: 0, Den: 1}
	for _, d := range list {
		grown, ok := AddFractions(sum, Fraction{Num: 1, Den: d})
		if !ok {
			return Fraction{}, false
		}
		sum = grown
	}
	return sum, true
}

// ifExpansion lets a result that has just been made pass only if it is an expansion.
func ifExpansion(made []int) ([]int, bool) {
	if !IsExpansion(made) {
		return nil, false
	}
	return made, true
}

func isIndex(list []int, i int) bool {
	return 0 <= i && i < len(list)
}

// withoutIndices returns a new list, so that the caller's own is free to be changed.
func withoutIndices(list []int, left ...int) []int {
	kept := []int{}
	for i, term := range list {
		if !slices.Contains(left, i) {
			kept = append(kept, term)
		}
	}
	return kept
}

// putInto returns the expansion with the fresh terms, none of which may be there already.
func putInto(list []int, fresh ...int) ([]int, bool) {
	for _, term := range fresh {
		grown, isNew := putIn(list, term)
		if !isNew {
			return nil, false
		}
		list = grown
	}
	return ifExpansion(list)
}

// putIn returns a new list with the value at its place in an increasing list, and whether it was not there yet.
func putIn[T cmp.Ordered](list []T, value T) ([]T, bool) {
	at, isThere := slices.BinarySearch(list, value)
	if isThere {
		return nil, false
	}
	grown := make([]T, 0, len(list)+1)
	grown = append(grown, list[:at]...)
	grown = append(grown, value)
	return append(grown, list[at:]...), true
}

// fractionText is FractionText for a value that is known to be a fraction.
func fractionText(a Fraction) string {
	text := strconv.Itoa(a.Num)
	if a.Den != 1 {
		text += "/" + strconv.Itoa(a.Den)
	}
	return text
}

func joinNumbers(list []int) string {
	words := make([]string, len(list))
	for i, number := range list {
		words[i] = strconv.Itoa(number)
	}
	return strings.Join(words, "+")
}

// parseNumber reads a number only as strconv.Itoa writes it: Atoi alone would take signs and superfluous zeros.
func parseNumber(word string) (int, bool) {
	number, err := strconv.Atoi(word)
	if err != nil || strconv.Itoa(number) != word {
		return 0, false
	}
	return number, true
}

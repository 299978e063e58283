package tests

import (
	"fmt"
	"math/big"
	"math/rand"
	"regexp"
	"slices"
	"strconv"
	"strings"
	"testing"

	"loop.example/g01107/impl"
)

// Guarantee 8, chapter 8, once more: lines and scripts against the calls that they name, by a second reading of the table.

// deskSaid is what the words of a line say, and the expansion there is.
type deskSaid struct {
	list    []int
	a       impl.Fraction
	e       []int
	numbers []int
}

// deskRule is a line of the table: which words it has, and the call that it names.
type deskRule struct {
	kinds string
	call  func(s deskSaid) (any, bool)
}

// In these rules a result of the type []int is an expansion that replaces the one there, and all others are replies.
var deskRules = map[string]deskRule{
	"take":      {"E", func(s deskSaid) (any, bool) { return s.e, true }},
	"greedy":    {"A", func(s deskSaid) (any, bool) { return both(impl.GreedyExpansion(s.a)) }},
	"engel":     {"A", func(s deskSaid) (any, bool) { return both(impl.EngelTerms(s.a)) }},
	"practical": {"A", func(s deskSaid) (any, bool) { return both(impl.PracticalExpansion(s.a)) }},
	"two":       {"N", func(s deskSaid) (any, bool) { return both(impl.TwoOver(s.numbers[0])) }},
	"split":     {"I", func(s deskSaid) (any, bool) { return both(impl.SplitTerm(s.list, s.numbers[0])) }},
	"merge":     {"IJ", func(s deskSaid) (any, bool) { return both(impl.MergePair(s.list, s.numbers[0], s.numbers[1])) }},
	"unite":     {"E", func(s deskSaid) (any, bool) { return both(impl.UniteExpansions(s.list, s.e)) }},
	"scale":     {"N", func(s deskSaid) (any, bool) { return both(impl.ScaleExpansion(s.list, s.numbers[0])) }},
	"over":      {"AN", func(s deskSaid) (any, bool) { return both(impl.ExpandOver(s.a, s.numbers[0])) }},
	"show":      {"", func(s deskSaid) (any, bool) { return plusText(s.list), true }},
	"sum":       {"", func(s deskSaid) (any, bool) { return both(impl.SumOf(s.list)) }},
	"rest":      {"A", func(s deskSaid) (any, bool) { return both(impl.RestOf(s.a, s.list)) }},
	"multiple":  {"", func(s deskSaid) (any, bool) { return both(impl.CommonMultiple(s.list)) }},
	"break":     {"N", func(s deskSaid) (any, bool) { prime, _, ok := impl.BreakOf(s.numbers[0]); return prime, ok }},
	"below": {"AK", func(s deskSaid) (any, bool) {
		list, ok := impl.NearestBelow(s.a, s.numbers[0])
		return plusText(list), ok
	}},
	"harmonic": {"N", func(s deskSaid) (any, bool) { return both(impl.HarmonicOf(s.numbers[0])) }},
}

func both[V any](value V, ok bool) (any, bool) {
	return value, ok
}

func plusText(numbers []int) string {
	return strings.ReplaceAll(strings.Trim(fmt.Sprint(numbers), "[]"), " ", "+")
}

var (
	numberPattern    = regexp.MustCompile(`\A(0|[1-9][0-9]{0,5})\z`)
	fractionPattern  = regexp.MustCompile(`\A(0|[1-9][0-9]*)(/[1-9][0-9]*)?\z`)
	expansionPattern = regexp.MustCompile(`\A([1-9][0-9]{0,9}(\+[1-9][0-9]{0,9})*)?\z`)
)

// add adds what a word says, if it is a fraction, an expansion or a number as it should be.
func (s *deskSaid) add(kind rune, word string) bool {
	switch kind {
	case 'A':
		if !fractionPattern.MatchString(word) {
			return false
		}
		x, _ := new(big.Rat).SetString(word)
		a, ok := wantFraction(x)
		s.a = a
		return ok && x.RatString() == word
	case 'E':
		if !expansionPattern.MatchString(word) {
			return false
		}
		for _, text := range strings.FieldsFunc(word, func(r rune) bool { return r == '+' }) {
			term, _ := strconv.Atoi(text)
			s.e = append(s.e, term)
		}
		return sumsOf(s.e) != nil
	}
	number, _ := strconv.Atoi(word)
	s.numbers = append(s.numbers, number)
	return numberPattern.MatchString(word)
}

// wantLine is the expansion behind a line, and the reply.
func wantLine(list []int, line string) ([]int, string) {
	name, rest, isMore := strings.Cut(line, " ")
	rule, isOne := deskRules[name]
	if !isOne || isMore != (rule.kinds != "") || strings.Count(rest, " ") != max(len(rule.kinds)-1, 0) {
		return list, "what"
	}
	s := deskSaid{list: list}
	for i, kind := range rule.kinds {
		if !s.add(kind, strings.Split(rest, " ")[i]) {
			return list, "what"
		}
	}
	value, ok := rule.call(s)
	if !ok {
		return list, "no"
	}
	switch x := value.(type) {
	case []int:
		return x, plusText(x)
	case impl.Fraction:
		return list, big.NewRat(int64(x.Num), int64(x.Den)).RatString()
	}
	return list, fmt.Sprint(value)
}

// deskWords are words for each kind, and some that are of none.
var deskWords = []string{
	"", "0", "1", "2", "3", "4", "7", "10", "12", "60", "201", "999999", "1000000", "01", "-1", "+1", "4/5", "3/7", "5/6", "2/4", "3/2", "11/12", "5/121", "1/1000000000", "1/1",
	"2+3", "2+3+6", "3+6", "4+12", "2+4+20", "3+2", "2+", "1001+999001", "30000+60000", fullText, "x", "show", "½",
}

func deskNames() []string {
	names := []string{"", "fly", "Sum", "TAKE", "0"}
	for name := range deskRules {
		names = append(names, name)
	}
	slices.Sort(names)
	return names
}

func deskLists() [][]int {
	return [][]int{
		nil, {1}, {2}, {3, 6}, {2, 3, 6}, {2, 4, 20}, {3, 4, 6, 20}, {4, 12}, {5, 20, 30}, {1000}, {1, 2},
		{billion}, {512, 1953125}, {19019, 52631579}, {30001, 900030000}, fullList(23), fullList(24),
	}
}

func TestLinesByOracle(t *testing.T) {
	replies := map[string]int{}
	for _, name := range deskNames() {
		lines := []string{name}
		for _, a := range deskWords {
			lines = append(lines, name+" "+a)
			for _, b := range deskWords {
				lines = append(lines, name+" "+a+" "+b)
			}
		}
		for _, list := range deskLists() {
			for _, line := range lines {
				after, reply := wantLine(list, line)
				checkLine(t, list, line, after, reply)
				if _, isOne := deskRules[name]; isOne && reply != "what" {
					reply = name
				}
				replies[reply]++
			}
		}
	}
	for name := range deskRules {
		if replies[name] == 0 {
			t.Error("no line is of the kind", name)
		}
	}
}

// randomLine is a line that has an effect more often than not.
func randomLine(r *rand.Rand) string {
	pick := func(words ...string) string { return words[r.Intn(len(words))] }
	number := func(below int) string { return strconv.Itoa(r.Intn(below)) }
	proper := func() string {
		den := r.Intn(60) + 1
		return big.NewRat(int64(r.Intn(den+2)), int64(den)).RatString()
	}
	switch r.Intn(24) {
	case 0, 1:
		return "take " + pick(deskWords...)
	case 2, 3, 4:
		return pick("greedy ", "engel ", "practical ", "rest ") + proper()
	case 5:
		return "two " + number(220)
	case 6, 7, 8:
		return "split " + number(5)
	case 9, 10, 11:
		return "merge " + number(3) + " " + number(5)
	case 12, 13:
		return "unite " + pick("2", "3+6", "5+7", "", "2+4+20", "9", "600+601", "x")
	case 14, 15:
		return "scale " + number(6)
	case 16:
		return "over " + proper() + " " + pick("12", "60", "720", "10", "2000", "2001")
	case 17:
		return "below " + pick("1", "1/2", "3/4", "11/12", "1/5") + " " + number(5)
	case 18:
		return pick("break ", "harmonic ") + number(22)
	case 19, 20, 21:
		return pick("show", "sum", "multiple")
	case 22:
		return pick(deskNames()...) + " " + pick(deskWords...)
	}
	return pick("", " ", "fly", "Show", "sum ", " sum", "take", "two  7", "split 00", "merge 0", "\r")
}

// Scripts are what their lines are, one after the other.
func TestScriptsByOracle(t *testing.T) {
	r := rand.New(rand.NewSource(8))
	most, nos, whats := 0, 0, 0
	for n := range 20 * 51 {
		script, list, replies, failed := "", []int{}, []string{}, []int{}
		for i := range n % 51 {
			line := randomLine(r)
			after, reply := wantLine(list, line)
			checkLine(t, list, line, after, reply)
			script, list, replies = script+line+"\n", after, append(replies, reply)
			if reply == "no" || reply == "what" {
				failed = append(failed, i+1)
			}
			if reply == "no" {
				nos++
			}
			if reply == "what" {
				whats++
			}
		}
		checkScript(t, script, replies, list, failed)
		most = max(most, len(list))
		// No script is one without the newline of its last line, unless that is empty, or with another text behind it.
		if cut := strings.TrimRight(script, "\n"); cut != "" {
			checkNoScript(t, cut)
		}
		checkNoScript(t, script+"show")
		if t.Failed() {
			t.Fatalf("script %q", script)
		}
	}
	if most < 8 || nos < 3000 || whats < 1000 {
		t.Error("the scripts are too much alike", most, nos, whats)
	}
}

// Every expansion that is on the desk can be taken from its text again.
func TestTextsAreTaken(t *testing.T) {
	for _, list := range deskLists() {
		_, text, ok := impl.DeskLine(list, "show")
		if !ok {
			t.Error("show", list)
		}
		checkLine(t, []int{5}, "take "+text, list, text)
		checkLine(t, nil, "unite "+text, list, text)
		checkScript(t, "take "+text+"\nshow\n", []string{text, text}, list, nil)
	}
	// Expansions that are no results of other functions may be taken too.
	for _, list := range sampleLists() {
		after, reply := list, plusText(list)
		if sumsOf(list) == nil {
			after, reply = []int{7}, "what"
		}
		checkLine(t, []int{7}, "take "+plusText(list), after, reply)
	}
}

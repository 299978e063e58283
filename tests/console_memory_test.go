package tests

import (
	"math/rand"
	"slices"
	"strings"
	"sync"
	"testing"

	"loop.example/g01107/impl"
)

// Guarantee 9 for chapter 8: no panic, whatever the arguments are, lists that are left as they were, and results that are new memory.

// deskCall is DeskLine with one line, of which it gives back the expansion.
func deskCall(line string) listCall {
	return listCall{"DeskLine " + line[:min(len(line), 60)], func(a, _ []int) []int {
		after, _, _ := impl.DeskLine(a, line)
		return after
	}}
}

func TestDeskListsAreKept(t *testing.T) {
	lines := slices.Concat(deskLines, []string{
		"", " ", "fly", "take ", "take 2+2", "unite ", "unite 3+6", "split 1", "split 5", "merge 1 0", "merge 0 2", "scale 1", "scale 0",
		"greedy 3/2", "over 1 0", "rest 0", "multiple ", "show ", "\n", "show\n", strings.Repeat("x", 3000), strings.Repeat("x", 3001),
	})
	lists := slices.Concat(notExpansions, deskLists(), [][]int{{}, fullList(25), fullList(300), upTo(1 << 16), make([]int, 1<<16)})
	for _, line := range lines {
		for _, list := range lists {
			checkMemory(t, deskCall(line), list, nil)
		}
	}
}

// What stands behind the length of a list does not count.
func TestTermsOfTheDeskBehindTheLengthDoNotCount(t *testing.T) {
	list := []int{2, 3, 5, 1}
	checkLine(t, list[:2], "show", []int{2, 3}, "2+3")
	checkLine(t, list[:2], "unite 6", []int{2, 3, 6}, "2+3+6")
	checkLine(t, list[:2], "split 1", []int{2, 4, 12}, "2+4+12")
	checkLine(t, list[:2], "split 2", []int{2, 3}, "no")
	checkLine(t, list[:3], "sum", []int{2, 3, 5}, "31/30")
	checkLine(t, list[:0], "sum", nil, "0")
	checkNotExecuted(t, list, "show")
	if !slices.Equal(list, []int{2, 3, 5, 1}) {
		t.Error(list)
	}
}

func TestScriptResultsAreNew(t *testing.T) {
	for _, s := range []string{"", "\n", "take 2+3\n", "take 2+3\nfly\nshow\nsplit 9\n", "greedy 4/5\nsplit 0\nsum\ntwo 7\nfly\n", strings.Repeat("show\n", 50), strings.Repeat("\n", 50), "x", "\n\nx"} {
		checkMemory(t, listCall{"DeskAfter", func(_, _ []int) []int { return first(impl.DeskAfter(s)) }}, nil, nil)
		checkMemory(t, listCall{"FailedLines", func(_, _ []int) []int { return first(impl.FailedLines(s)) }}, nil, nil)
		replies, _ := impl.RunScript(s)
		again, _ := impl.RunScript(s)
		want := slices.Clone(again)
		for i := range replies[:cap(replies)] {
			replies[:cap(replies)][i] = "changed"
		}
		if !slices.Equal(again, want) {
			t.Errorf("RunScript %q returns the same memory twice", s)
		}
	}
}

// Between two calls nothing is kept: a script begins without terms, whatever was before it.
func TestNothingIsKept(t *testing.T) {
	for _, s := range []string{"take 2+3\n", "two 7\nfly\n", strings.Repeat("take 5\n", 50), "take 5\n\nx"} {
		impl.RunScript(s)
		impl.DeskAfter(s)
		impl.FailedLines(s)
		impl.DeskLine([]int{7}, "take 2+3")
		checkScript(t, "show\nfly\n", []string{"", "what"}, nil, []int{2})
		checkLine(t, nil, "show", nil, "")
	}
}

func TestScriptsAtTheSameTime(t *testing.T) {
	var all sync.WaitGroup
	for range 8 {
		all.Go(func() {
			for range 50 {
				checkScript(t, "greedy 4/5\nsplit 0\nsum\ntwo 7\nfly\n", []string{"2+4+20", "3+4+6+20", "4/5", "4+28", "what"}, []int{4, 28}, []int{5})
				checkLine(t, []int{3, 6}, "merge 0 1", []int{2}, "2")
			}
		})
	}
	all.Wait()
}

// randomText has parts of lines in any order, with any bytes in between.
func randomText(r *rand.Rand) string {
	text := ""
	for range r.Intn(12) {
		switch r.Intn(4) {
		case 0:
			text += deskLines[r.Intn(len(deskLines))]
		case 1:
			text += deskWords[r.Intn(len(deskWords))]
		case 2:
			text += string([]byte{byte(r.Intn(256))})
		default:
			text += []string{"\n", " ", "\n", "  ", "\r\n", "+", "/", "-"}[r.Intn(8)]
		}
	}
	return text
}

func TestConsoleNeverPanics(t *testing.T) {
	texts := []string{"", "\x00", "\xff\xfe", "take", strings.Repeat("take 1\n", 1<<16), strings.Repeat("\n", 1<<20), strings.Repeat("x", 1<<20), strings.Repeat(" ", 1<<20)}
	for b := range 256 {
		texts = append(texts, string([]byte{byte(b)}), string([]byte{byte(b), '\n'}), "show"+string([]byte{byte(b)})+"\n", "split "+string([]byte{byte(b)})+"\n")
	}
	r := rand.New(rand.NewSource(9))
	for range 20000 {
		texts = append(texts, randomText(r))
	}
	for _, s := range texts {
		isScript := len(s) <= 3000 && strings.Count(s, "\n") <= 50 && (s == "" || strings.HasSuffix(s, "\n"))
		replies, ok := impl.RunScript(s)
		if ok != isScript || !ok && replies != nil || ok && len(replies) != strings.Count(s, "\n") {
			t.Errorf("RunScript %.100q %q %v", s, replies, ok)
		}
		after, ok := impl.DeskAfter(s)
		if ok != isScript || !ok && after != nil || !impl.IsExpansion(after) {
			t.Errorf("DeskAfter %.100q %v %v", s, after, ok)
		}
		failed, ok := impl.FailedLines(s)
		if ok != isScript || !ok && failed != nil || len(failed) > len(replies) {
			t.Errorf("FailedLines %.100q %v %v", s, failed, ok)
		}
		for _, list := range [][]int{nil, {2, 3}, {3, 2}, fullList(25), {-1}} {
			isLine := len(s) <= 3000 && !strings.Contains(s, "\n") && impl.IsExpansion(list)
			after, reply, ok := impl.DeskLine(list, s)
			if ok != isLine || !ok && (after != nil || reply != "") || !impl.IsExpansion(after) {
				t.Errorf("DeskLine %v %.100q %v %q %v", list, s, after, reply, ok)
			}
		}
	}
}

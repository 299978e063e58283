package tests

import (
	"slices"
	"strings"
	"testing"

	"loop.example/g01107/impl"
)

// Guarantee 8, chapter 8, by examples at the ordinary places and at the limits.

// checkLine checks a line that is executed on an expansion: what the expansion is behind it, and the reply.
func checkLine(t *testing.T, list []int, line string, after []int, reply string) {
	t.Helper()
	got, told, ok := impl.DeskLine(list, line)
	if !slices.Equal(got, after) || told != reply || !ok {
		t.Errorf("DeskLine %v %.60q %v %.60q %v and not %v %q", list, line, got, told, ok, after, reply)
	}
}

// checkNotExecuted checks a line, or an expansion, with which DeskLine fails.
func checkNotExecuted(t *testing.T, list []int, line string) {
	t.Helper()
	if got, told, ok := impl.DeskLine(list, line); got != nil || told != "" || ok {
		t.Errorf("DeskLine %v %.60q %v %.60q %v", list, line, got, told, ok)
	}
}

// checkScript checks the replies to a script, the expansion behind it and the lines that fail.
func checkScript(t *testing.T, s string, replies []string, after []int, failed []int) {
	t.Helper()
	if got, ok := impl.RunScript(s); !slices.Equal(got, replies) || !ok {
		t.Errorf("RunScript %.300q %q %v and not %q", s, got, ok, replies)
	}
	if got, ok := impl.DeskAfter(s); !slices.Equal(got, after) || !ok {
		t.Errorf("DeskAfter %.300q %v %v and not %v", s, got, ok, after)
	}
	if got, ok := impl.FailedLines(s); !slices.Equal(got, failed) || !ok {
		t.Errorf("FailedLines %.300q %v %v and not %v", s, got, ok, failed)
	}
}

// checkNoScript checks a text that is no script.
func checkNoScript(t *testing.T, s string) {
	t.Helper()
	if got, ok := impl.RunScript(s); got != nil || ok {
		t.Errorf("RunScript %d %.60q %q %v", len(s), s, got, ok)
	}
	if got, ok := impl.DeskAfter(s); got != nil || ok {
		t.Errorf("DeskAfter %d %.60q %v %v", len(s), s, got, ok)
	}
	if got, ok := impl.FailedLines(s); got != nil || ok {
		t.Errorf("FailedLines %d %.60q %v %v", len(s), s, got, ok)
	}
}

// fullText is the text of fullList(24).
const fullText = "2+6+12+20+30+42+56+72+90+110+132+156+182+210+240+272+306+342+380+420+462+506+552+600"

// Lines with an effect: the reply is the text of the expansion behind them.
func TestDeskLineWithEffect(t *testing.T) {
	for _, c := range []struct {
		list  []int
		line  string
		after []int
		reply string
	}{
		{[]int{5}, "take 2+4+20", []int{2, 4, 20}, "2+4+20"},
		{nil, "take 2+3+6", []int{2, 3, 6}, "2+3+6"},
		{[]int{2, 3}, "take 1", []int{1}, "1"},
		{[]int{2, 3}, "take 1000000000", []int{billion}, "1000000000"},
		{nil, "take " + fullText, fullList(24), fullText},
		// The text of the expansion without terms is empty.
		{[]int{2, 4, 20}, "take ", []int{}, ""},
		{nil, "take ", []int{}, ""},
		{[]int{5}, "greedy 4/5", []int{2, 4, 20}, "2+4+20"},
		{[]int{5}, "greedy 1", []int{1}, "1"},
		{[]int{5}, "greedy 0", []int{}, ""},
		{[]int{5}, "greedy 1/1000000000", []int{billion}, "1000000000"},
		{[]int{5}, "engel 3/7", []int{3, 12, 84}, "3+12+84"},
		{[]int{5}, "engel 5/121", []int{25, 775, 31775, 1938275, 234531275}, "25+775+31775+1938275+234531275"},
		{[]int{5}, "engel 0", []int{}, ""},
		{[]int{5}, "practical 3/7", []int{4, 7, 28}, "4+7+28"},
		{[]int{5}, "practical 4/5", []int{2, 4, 20}, "2+4+20"},
		{[]int{5}, "practical 1/2000", []int{2000}, "2000"},
		{[]int{5}, "practical 0", []int{}, ""},
		{[]int{5}, "two 7", []int{4, 28}, "4+28"},
		{[]int{5}, "two 3", []int{2, 6}, "2+6"},
		{[]int{5}, "two 201", []int{134, 402}, "134+402"},
		{[]int{2, 4, 20}, "split 0", []int{3, 4, 6, 20}, "3+4+6+20"},
		{[]int{2, 4, 20}, "split 2", []int{2, 4, 21, 420}, "2+4+21+420"},
		{[]int{3, 4, 6, 20}, "merge 0 2", []int{2, 4, 20}, "2+4+20"},
		{[]int{3, 6}, "merge 0 1", []int{2}, "2"},
		{[]int{2, 10, 15, 100}, "merge 1 2", []int{2, 6, 100}, "2+6+100"},
		{[]int{2, 6}, "unite 3+6+20", []int{2, 3, 6, 20}, "2+3+6+20"},
		{nil, "unite 2+3", []int{2, 3}, "2+3"},
		{[]int{2, 3}, "unite 2+3", []int{2, 3}, "2+3"},
		{[]int{2, 3}, "unite ", []int{2, 3}, "2+3"},
		{nil, "unite ", []int{}, ""},
		{[]int{2, 3, 6}, "scale 5", []int{10, 15, 30}, "10+15+30"},
		{[]int{2, 3, 6}, "scale 1", []int{2, 3, 6}, "2+3+6"},
		{[]int{1000}, "scale 999999", []int{999999000}, "999999000"},
		{nil, "scale 999999", []int{}, ""},
		{[]int{5}, "over 5/6 12", []int{2, 3}, "2+3"},
		{[]int{5}, "over 4/5 10", []int{2, 5, 10}, "2+5+10"},
		{[]int{5}, "over 7/3 12", []int{1, 2, 3, 4, 6, 12}, "1+2+3+4+6+12"},
		{[]int{5}, "over 0 7", []int{}, ""},
		{[]int{5}, "over 1 2000", []int{1}, "1"},
	} {
		checkLine(t, c.list, c.line, c.after, c.reply)
	}
}

// Lines that only ask: the expansion stays as it is.
func TestDeskLineThatAsks(t *testing.T) {
	for _, c := range []struct {
		list  []int
		line  string
		reply string
	}{
		{[]int{2, 4, 20}, "show", "2+4+20"},
		{[]int{billion}, "show", "1000000000"},
		{fullList(24), "show", fullText},
		{nil, "show", ""},
		{[]int{2, 4, 20}, "sum", "4/5"},
		{[]int{2, 3, 6}, "sum", "1"},
		{[]int{1, 2}, "sum", "3/2"},
		{[]int{1, billion - 1}, "sum", "1000000000/999999999"},
		{nil, "sum", "0"},
		{[]int{2, 4, 20}, "rest 1", "1/5"},
		{[]int{2, 4, 20}, "rest 4/5", "0"},
		{[]int{2}, "rest 5/2", "2"},
		{nil, "rest 4/5", "4/5"},
		{nil, "rest 0", "0"},
		{nil, "rest 1000000000", "1000000000"},
		{[]int{2, 4, 20}, "multiple", "20"},
		{[]int{4, 6}, "multiple", "12"},
		{[]int{512, 1953125}, "multiple", "1000000000"},
		{nil, "multiple", "1"},
		{[]int{2, 4, 20}, "break 10", "5"},
		{[]int{2, 4, 20}, "break 3", "3"},
		{nil, "break 1994", "997"},
		{nil, "break 1999", "1999"},
		{[]int{5}, "below 1 3", "2+3+7"},
		{[]int{5}, "below 1 1", "2"},
		{[]int{5}, "below 1 4", "2+3+7+43"},
		{[]int{5}, "below 7/10 2", "2+6"},
		{nil, "below 11/12 3", "2+3+13"},
		{[]int{5}, "below 5/11 3", "4+5+221"}, // greedy numbers would be 3, 9, 100
		{[]int{5}, "harmonic 4", "25/12"},
		{[]int{5}, "harmonic 1", "1"},
		{[]int{5}, "harmonic 0", "0"},
		{nil, "harmonic 20", "55835135/15519504"},
	} {
		checkLine(t, c.list, c.line, c.list, c.reply)
	}
}

// Lines whose words are what they should be, but with which a function fails.
func TestDeskLineNo(t *testing.T) {
	for _, c := range []struct {
		list []int
		line string
	}{
		{[]int{2, 3}, "greedy 3/2"},
		{[]int{2, 3}, "greedy 2"},
		{[]int{2, 3}, "greedy 5/121"},
		{[]int{2, 3}, "greedy 1000000000"},
		{[]int{2, 3}, "engel 1"},
		{[]int{2, 3}, "engel 3/2"},
		{[]int{2, 3}, "engel 999999999/1000000000"},
		{[]int{2, 3}, "practical 1"},
		{[]int{2, 3}, "practical 3/2"},
		{[]int{2, 3}, "practical 1/1999"},
		{[]int{2, 3}, "practical 1/2001"},
		{[]int{2, 3}, "two 0"},
		{[]int{2, 3}, "two 1"},
		{[]int{2, 3}, "two 8"},
		{[]int{2, 3}, "two 203"},
		{[]int{2, 3}, "two 999999"},
		{[]int{2, 4, 20}, "split 1"},
		{[]int{2, 4, 20}, "split 3"},
		{[]int{2, 4, 20}, "split 999999"},
		{[]int{1}, "split 0"},
		{nil, "split 0"},
		{[]int{billion}, "split 0"},
		{[]int{3, 6}, "merge 1 0"},
		{[]int{3, 6}, "merge 0 0"},
		{[]int{3, 6}, "merge 0 2"},
		{[]int{3, 6}, "merge 0 999999"},
		{[]int{2, 3}, "merge 0 1"},
		{[]int{2, 3, 6}, "merge 1 2"},
		{nil, "merge 0 1"},
		{fullList(24), "unite 650"},
		{[]int{2}, "unite 999999999"},
		{[]int{30001, 900030000}, "unite 60000"},
		{[]int{2, 3}, "scale 0"},
		{[]int{999, 1000}, "scale 999999"}, // the Den of the sum would be too great
		{[]int{1001}, "scale 999999"},
		{nil, "scale 0"},
		{[]int{2, 3}, "over 5/6 10"},
		{[]int{2, 3}, "over 4/5 5"},
		{[]int{2, 3}, "over 1 0"},
		{[]int{2, 3}, "over 0 0"},
		{[]int{2, 3}, "over 1 2001"},
		{[]int{2, 3}, "over 1 999999"},
		{[]int{2, 3}, "over 10/3 720"},
		{[]int{2, 4, 20}, "rest 1/2"},
		{[]int{2, 4, 20}, "rest 0"},
		{[]int{billion}, "rest 1/3"},
		{[]int{19019, 52631579}, "multiple"},
		{[]int{2, 3}, "break 12"},
		{[]int{2, 3}, "break 1"},
		{[]int{2, 3}, "break 0"},
		{[]int{2, 3}, "break 2001"},
		{[]int{2, 3}, "break 999999"},
		{[]int{2, 3}, "below 1 0"},
		{[]int{2, 3}, "below 1 5"},
		{[]int{2, 3}, "below 1/2 4"},
		{[]int{2, 3}, "below 1/5 1"},
		{[]int{2, 3}, "below 3/2 1"},
		{[]int{2, 3}, "below 0 1"},
		{[]int{2, 3}, "below 12/13 1"},
		{[]int{2, 3}, "below 1 999999"},
		{[]int{2, 3}, "harmonic 21"},
		{[]int{2, 3}, "harmonic 999999"},
	} {
		checkLine(t, c.list, c.line, c.list, "no")
	}
}

// Lines that are not in the table, whatever is in them.
func TestDeskLineWhat(t *testing.T) {
	for _, line := range []string{
		"", " ", "  ", "fly", "no", "what", "2+4", "4/5", "7", "A", "E", "take2+3", "two7", "greedy4/5", "fly 7", "takes 2", "tak 2", "s", "sho", "shows",
		"show\t", "\tshow", "show\r", "\rshow", "show\x00", "\x00", "two\t7", "two 7\r", "greedy 4/5\t", "show;sum", "take\v2", "\xff\xfe", "ｓhow", "show\u00a0", "two\u00a07",
		"Show", "SHOW", "sHow", "SUM", "Sum", "MULTIPLE", "TAKE 2+3", "Take 2+3", "TAKE ", "GREEDY 4/5", "Engel 3/7", "PRACTICAL 3/7", "Two 7", "SPLIT 0", "Merge 0 1",
		"UNITE 5", "Scale 5", "OVER 5/6 12", "Rest 4/5", "BREAK 10", "Below 1 3", "HARMONIC 4",
		"0 split", "4/5 greedy", "12 over 5/6", "over 12 5/6", "below 3 1/2", "split 0 sum", "show sum", "show show",
	} {
		for _, list := range [][]int{nil, {2, 4, 20}, {3, 6}, fullList(24)} {
			checkLine(t, list, line, list, "what")
		}
	}
}

// deskLines has a line for each one of the table with which no function fails on the expansion 3, 6.
var deskLines = []string{
	"take 2+4+20", "greedy 4/5", "engel 4/5", "practical 4/5", "two 7", "split 0", "merge 0 1", "unite 2+20", "scale 5", "over 5/6 12",
	"show", "sum", "rest 4/5", "multiple", "break 10", "below 1 3", "harmonic 4",
}

// isExpansionWord tells the words that are texts of expansions: of these, an empty one is another.
func isExpansionWord(words []string, i int) bool {
	return i == 1 && (words[0] == "take" || words[0] == "unite")
}

func TestTooManyAndTooFewWords(t *testing.T) {
	list := []int{3, 6}
	for _, line := range deskLines {
		if _, reply, ok := impl.DeskLine(list, line); reply == "no" || reply == "what" || !ok {
			t.Error(line, reply, ok)
		}
		for _, word := range []string{"", " ", "0", "1", "7", "x", "2+3", "4/5", line} {
			checkLine(t, list, line+" "+word, list, "what")
			checkLine(t, list, word+" "+line, list, "what")
		}
		words := strings.Split(line, " ")
		for i := range words {
			// Two blanks side by side make an empty word, which is one too many.
			more := slices.Insert(slices.Clone(words), i, "")
			checkLine(t, list, strings.Join(more, " "), list, "what")
			more[i] = words[i]
			checkLine(t, list, strings.Join(more, " "), list, "what")
			fewer := slices.Delete(slices.Clone(words), i, i+1)
			checkLine(t, list, strings.Join(fewer, " "), list, "what")
			if !isExpansionWord(words, i) {
				empty := slices.Clone(words)
				empty[i] = ""
				checkLine(t, list, strings.Join(empty, " "), list, "what")
			}
			upper := slices.Clone(words)
			if upper[i] = strings.ToUpper(words[i]); upper[i] != words[i] {
				checkLine(t, list, strings.Join(upper, " "), list, "what")
			}
		}
	}
}

// Texts that are no numbers, fractions or expansions for the console.
var (
	notNumberWords = []string{
		"00", "01", "007", "000000", "0000001", "+0", "+1", "-0", "-1", "-999999", "--1", "1-", "1000000", "1000001", "9999999", "1000000000", "9223372036854775807", "9223372036854775808",
		"18446744073709551616", "18446744073709551617", "1e3", "0x1", "0b1", "0o7", "1_0", "1.0", "1.", ".5", "1/1", "2/1", "1/2", "1+2", "x", "a1", "1a", "I", "٣", "１", "½", "1\x00", "\x00", "1\r", "1\t", "\xff",
		strings.Repeat("0", 1000), strings.Repeat("1", 1000),
	}
	notFractionWords = []string{
		"2/4", "0/5", "0/2", "4/1", "0/1", "1/1", "5/5", "1/0", "0/0", "1/", "/2", "/", "1/2/3", "1//2", "00", "01", "01/2", "1/02", "1/-2", "-1", "-1/2", "+1", "+1/2", "1/+2", "-0",
		"1000000001", "1/1000000001", "1000000001/2", "1000000000000000000000", "1/18446744073709551618", "0.5", "1.0", "1e3", "50%", "x", "1/x", "½", "2+3", "1/2\r", "\xff",
		strings.Repeat("9", 1000), strings.Repeat("/", 1000),
	}
	notExpansionWords = []string{
		"+", "++", "2+", "+2", "2++3", "0", "0+2", "00", "02", "2+03", "-2", "2+-3", "2+2", "3+2", "2+6+3", "1000000001", "2+1000000001", "1+1000000000", "1001+999001", "30001+60000+900030000",
		"18446744073709551618", "2+18446744073709551619", "2,3", "2/3", "2-3", "x", "2+x", "½", "2+3\r", "\t", "\xff", fullText + "+650", strings.Repeat("2+", 500),
	}
)

// badWordsFor returns texts that the word of a line with the index i can't be.
func badWordsFor(command string, i int) []string {
	switch {
	case command == "take" || command == "unite":
		return notExpansionWords
	case i == 1 && slices.Contains([]string{"greedy", "engel", "practical", "over", "rest", "below"}, command):
		return notFractionWords
	}
	return notNumberWords
}

func TestWordsThatAreNone(t *testing.T) {
	list := []int{3, 6}
	for _, line := range deskLines {
		words := strings.Split(line, " ")
		for i := 1; i < len(words); i++ {
			for _, word := range badWordsFor(words[0], i) {
				changed := slices.Clone(words)
				changed[i] = word
				checkLine(t, list, strings.Join(changed, " "), list, "what")
			}
		}
	}
	// It is what, and not no, also where a function would fail with the other word.
	for _, line := range []string{"merge 9 x", "merge x 9", "merge 1 01", "over 3/2 x", "over 2/4 0", "below 5 x", "below 2/4 9", "merge 0 1000000", "over 1 1000000", "below 1 1000000"} {
		checkLine(t, list, line, list, "what")
	}
}

// Numbers of just 0 and 999999 are some.
func TestNumbersAtTheirLimits(t *testing.T) {
	list := []int{3, 6}
	for _, line := range []string{
		"two 0", "two 999999", "split 999999", "merge 0 0", "merge 0 999999", "merge 999999 0", "merge 999999 999999",
		"scale 0", "over 0 0", "over 0 999999", "break 0", "break 999999", "below 1 0", "below 1 999999", "harmonic 999999",
	} {
		checkLine(t, list, line, list, "no")
	}
	checkLine(t, list, "harmonic 0", list, "0")
	checkLine(t, list, "split 0", []int{4, 6, 12}, "4+6+12")
	checkLine(t, list, "merge 0 1", []int{2}, "2")
	checkLine(t, list, "scale 999999", []int{2999997, 5999994}, "2999997+5999994")
	checkLine(t, []int{1}, "scale 999999", []int{999999}, "999999")
	checkLine(t, []int{1}, "scale 1000000", []int{1}, "what")
	checkLine(t, nil, "scale 1000000", []int{}, "what")
}

// The bounds of a line are for its bytes, however few letters these are.
func TestLongLines(t *testing.T) {
	list := []int{2, 3}
	for _, letter := range []string{"x", " ", "0", "+", "\r", "\x00", "½", "€", "𝟙"} {
		full := strings.Repeat(letter, 3000/len(letter))
		checkLine(t, list, full, list, "what")
		checkNotExecuted(t, list, full+letter)
		checkNotExecuted(t, list, full+"x")
		checkNotExecuted(t, list, full+full)
	}
	for _, line := range deskLines {
		long := line + strings.Repeat(" ", 3000-len(line))
		checkLine(t, list, long, list, "what")
		checkNotExecuted(t, list, long+" ")
		checkNotExecuted(t, nil, long+" ")
	}
	checkNotExecuted(t, list, strings.Repeat("x", 1<<20))
}

func TestLinesWithNewlines(t *testing.T) {
	for _, line := range append([]string{"", "x", "take "}, deskLines...) {
		for _, list := range [][]int{nil, {2, 4, 20}} {
			checkNotExecuted(t, list, line+"\n")
			checkNotExecuted(t, list, "\n"+line)
			checkNotExecuted(t, list, line+"\n"+line)
			checkNotExecuted(t, list, line+"\n"+strings.Repeat("x", 2999-len(line)))
			checkNotExecuted(t, list, strings.Repeat("x", 2999)+"\n")
		}
	}
}

// An expansion is required even for lines that have no use of it.
func TestDeskLineOfNoExpansions(t *testing.T) {
	lines := append([]string{"", "fly", "take ", "no", "two 8", "\n", strings.Repeat("x", 3001)}, deskLines...)
	for _, bad := range notExpansions {
		for _, line := range lines {
			checkNotExecuted(t, bad, line)
		}
	}
}

func TestScripts(t *testing.T) {
	for _, c := range []struct {
		lines, replies []string
		after          []int
		failed         []int
	}{
		// The example of the chapter.
		{
			[]string{"greedy 4/5", "split 0", "sum", "two 7", "fly"},
			[]string{"2+4+20", "3+4+6+20", "4/5", "4+28", "what"}, []int{4, 28}, []int{5},
		},
		// A script begins without terms.
		{
			[]string{"show", "sum", "multiple", "rest 4/5", "split 0", "scale 5", "unite 3", "show"},
			[]string{"", "0", "1", "4/5", "no", "", "3", "3"}, []int{3}, []int{5},
		},
		// Lines that fail change nothing: the next ones work on what was there before.
		{
			[]string{"take 3+6", "split 9", "merge 0 1", "merge 0 1", "show", "take 2+2", "two 8", "split 0", "greedy 3/2", "fly", "", "unite 2", "sum"},
			[]string{"3+6", "no", "2", "no", "2", "what", "no", "3+6", "no", "what", "what", "2+3+6", "1"}, []int{2, 3, 6}, []int{2, 4, 6, 7, 9, 10, 11},
		},
		// Lines that ask change nothing either.
		{
			[]string{"take 2+4+20", "below 1 3", "show", "harmonic 4", "break 10", "rest 1", "sum", "multiple", "merge 1 2", "split 2"},
			[]string{"2+4+20", "2+3+7", "2+4+20", "25/12", "5", "1/5", "4/5", "20", "no", "2+4+21+420"}, []int{2, 4, 21, 420}, []int{9},
		},
		{
			[]string{"greedy 3/7", "engel 3/7", "practical 3/7", "over 3/7 28", "take ", "show", "greedy 0", "engel 0", "practical 0", "over 0 5"},
			[]string{"3+11+231", "3+12+84", "4+7+28", "4+7+28", "", "", "", "", "", ""}, []int{}, nil,
		},
		{[]string{"fly"}, []string{"what"}, []int{}, []int{1}},
		{[]string{"two 8", "TWO 7", "two 7 "}, []string{"no", "what", "what"}, []int{}, []int{1, 2, 3}},
		{[]string{"take 5", "take x"}, []string{"5", "what"}, []int{5}, []int{2}},
		{[]string{" show", "show ", "take  5", "take 5\r", "take 5"}, []string{"what", "what", "what", "what", "5"}, []int{5}, []int{1, 2, 3, 4}},
		// No lines at all, and empty ones.
		{nil, nil, []int{}, nil},
		{[]string{""}, []string{"what"}, []int{}, []int{1}},
		{[]string{"", "", ""}, []string{"what", "what", "what"}, []int{}, []int{1, 2, 3}},
		{[]string{"", "take 7", "", "show", ""}, []string{"what", "7", "what", "7", "what"}, []int{7}, []int{1, 3, 5}},
	} {
		script := ""
		for _, line := range c.lines {
			script += line + "\n"
		}
		checkScript(t, script, c.replies, c.after, c.failed)
	}
}

func TestScriptsOfMaxLines(t *testing.T) {
	for _, c := range []struct {
		line, reply string
		after       []int
	}{
		{"", "what", []int{}},
		{"show", "", []int{}},
		{"take 2+3", "2+3", []int{2, 3}},
		{"two 7", "4+28", []int{4, 28}},
		{"split 0", "no", []int{}},
		{"fly", "what", []int{}},
	} {
		failed := []int{}
		if c.reply == "no" || c.reply == "what" {
			failed = upTo(50)
		}
		for _, n := range []int{49, 50} {
			checkScript(t, strings.Repeat(c.line+"\n", n), slices.Repeat([]string{c.reply}, n), c.after, failed[:min(n, len(failed))])
		}
		checkNoScript(t, strings.Repeat(c.line+"\n", 51))
		// A last line without a newline is one too many, and no line either.
		checkNoScript(t, strings.Repeat(c.line+"\n", 50)+"x")
		checkNoScript(t, strings.Repeat(c.line+"\n", 51)+"x")
	}
	checkNoScript(t, strings.Repeat("\n", 2999))
	checkNoScript(t, strings.Repeat("\n", 3000))
}

func TestScriptsOfMaxScript(t *testing.T) {
	for _, letter := range []string{"x", " ", "\r", "½", "€"} {
		for size := 2998; size <= 3000; size++ {
			before, behind := "take 2+3\n", "\nsplit 0\n"
			long := strings.Repeat(letter, (size-len(before)-len(behind))/len(letter))
			long += strings.Repeat("x", size-len(before)-len(behind)-len(long))
			script := before + long + behind
			checkScript(t, script, []string{"2+3", "what", "no"}, []int{2, 3}, []int{2, 3})
			if len(script) != size {
				t.Error(len(script))
			}
		}
		long := strings.Repeat(letter, 2999/len(letter))
		checkScript(t, long+strings.Repeat("x", 2999-len(long))+"\n", []string{"what"}, []int{}, []int{1})
		checkNoScript(t, long+strings.Repeat("x", 3000-len(long))+"\n")
	}
	script := "take 2+3\nsplit 1\n" + strings.Repeat("x", 2977) + "\nshow\n"
	checkScript(t, script, []string{"2+3", "2+4+12", "what", "2+4+12"}, []int{2, 4, 12}, []int{3})
	for _, more := range []string{"\n", "x\n", "show\n", strings.Repeat("x", 1<<20) + "\n"} {
		checkNoScript(t, script+more)
		checkNoScript(t, more+script)
	}
}

func TestNoScripts(t *testing.T) {
	for _, s := range append([]string{"x", " ", "\r", "\x00", "0", "take "}, deskLines...) {
		checkNoScript(t, s)
		checkNoScript(t, s+"\n"+s)
		checkNoScript(t, "\n"+s)
		checkNoScript(t, "take 2+3\nshow\n\n"+s)
		checkNoScript(t, s+"\r")
		checkNoScript(t, s+"\u2028")
	}
	for _, n := range []int{3001, 1 << 20} {
		for _, s := range []string{"x", "\n", " ", "show\n", "take 2+3\n"} {
			checkNoScript(t, strings.Repeat(s, n))
			checkNoScript(t, strings.Repeat(s, n)+"\n")
		}
	}
}

func TestConsoleLimits(t *testing.T) {
	if impl.MaxScript != 3000 || impl.MaxLines != 50 {
		t.Error(impl.MaxScript, impl.MaxLines)
	}
}

package tests

import (
	"fmt"
	"slices"
	"strings"
	"testing"

	"loop.example/g03204/impl"
)

// The expected values of this file are made of texts: the line is a text of points, on which a pattern is laid time by time.

// laidLine has the times of first elements, the time on which the pattern could not be laid (-1 if it always could), and the times at which all before were taken and no later one was.
type laidLine struct {
	entries []int
	fail    int
	blocks  []int
}

// manyEntries is more than there are ways in which the 11 times after a free one can be taken; later ones never are, because the last entry was before it.
// A pattern that is laid as often was laid on one of these ways twice, and so goes on.
const manyEntries = 2100

func laid(pattern []int) laidLine {
	line := laidLine{fail: -1}
	text := []byte(bar(13))
	for time := 0; len(line.entries) < manyEntries; time++ {
		text = append(text, '.')
		if text[time] == 'x' {
			continue
		}
		for _, element := range pattern {
			if text[time+element] == 'x' {
				line.fail = time
				return line
			}
			text[time+element] = 'x'
		}
		line.entries = append(line.entries, time)
		if run := strings.TrimRight(string(text[time:]), "."); !strings.Contains(run, ".") {
			line.blocks = append(line.blocks, time+len(run))
		}
	}
	return line
}

// period tries all P, and compares the times of first elements with those that are P later, up to time 1000.
func (line laidLine) period() int {
	if line.fail >= 0 {
		return 0
	}
	isEntry := map[int]bool{}
	for _, time := range line.entries {
		isEntry[time] = true
	}
	for period := 1; ; period++ {
		same := true
		for time := range 1000 {
			same = same && isEntry[time] == isEntry[time+period]
		}
		if same {
			return period
		}
	}
}

// block is the first one, if it has at most 200 times.
func (line laidLine) block() int {
	if len(line.blocks) == 0 || line.blocks[0] > 200 {
		return 0
	}
	return line.blocks[0]
}

// patternOf has the places of the x.
func patternOf(text string) []int { return placesOf(text) }

// allPatterns goes through the 4096 patterns: each of the numbers from 1 to 12 is in them or is not.
func allPatterns(yield func(pattern []int) bool) {
	for mask := range 1 << 12 {
		if !yield(rhythmOfMask(13, 2*mask+1).Beats) {
			return
		}
	}
}

// lineValues is what the functions tell of a pattern: all entries up to the one at which it fails or at least 40, the time on which it fails or -1, and the period and the block or 0.
type lineValues struct {
	entries []int
	fail    int
	period  int
	block   int
}

func hasLine(t *testing.T, pattern []int, want lineValues) {
	t.Helper()
	isBool(t, fmt.Sprintf("PatternOk(%v)", pattern), impl.PatternOk(pattern), true)
	for count := -2; count <= 42; count++ {
		hasEntries(t, pattern, count, want.entries)
	}
	for _, count := range append(extremes(), -40, 100, 1000, 1<<32, 1<<32+1, -1<<32+1) {
		hasEntries(t, pattern, count, want.entries)
	}
	isBool(t, fmt.Sprintf("CanGoOn(%v)", pattern), impl.CanGoOn(pattern), want.fail < 0)
	sameInt(t, fmt.Sprintf("FailTime(%v)", pattern), impl.FailTime(pattern), want.fail)
	sameInt(t, fmt.Sprintf("LinePeriod(%v)", pattern), impl.LinePeriod(pattern), want.period)
	below := slices.DeleteFunc(slices.Clone(want.entries), func(time int) bool { return time >= want.period })
	sameInts(t, fmt.Sprintf("PeriodEntries(%v)", pattern), impl.PeriodEntries(pattern), below)
	hasTiling(t, pattern, want.period, below)
	sameInt(t, fmt.Sprintf("BlockLength(%v)", pattern), impl.BlockLength(pattern), want.block)
}

func hasEntries(t *testing.T, pattern []int, count int, all []int) {
	t.Helper()
	got, ok := impl.EntriesOf(pattern, count)
	label := fmt.Sprintf("EntriesOf(%v, %d)", pattern, count)
	if count < 0 || count > 40 || count > len(all) {
		isBool(t, "the bool of "+label, ok, false)
		sameInts(t, label, got, nil)
	} else {
		isBool(t, "the bool of "+label, ok, true)
		sameInts(t, label, got, all[:count])
	}
}

func hasTiling(t *testing.T, pattern []int, period int, below []int) {
	t.Helper()
	first, second, ok := impl.LineTiling(pattern)
	label := fmt.Sprintf("LineTiling(%v)", pattern)
	if period == 0 || period > 24 {
		isNoRhythm(t, "the first rhythm of "+label, first, ok)
		isNoRhythm(t, "the second rhythm of "+label, second, ok)
		return
	}
	var places []int
	for _, element := range pattern {
		places = append(places, remainder(element, period))
	}
	isRhythm(t, "the first rhythm of "+label, first, ok, rhythmOfText(bar(period, places...)))
	isRhythm(t, "the second rhythm of "+label, second, ok, rhythmOfText(bar(period, below...)))
}

func TestAllPatterns(t *testing.T) {
	for pattern := range allPatterns {
		line := laid(pattern)
		hasLine(t, pattern, lineValues{line.entries, line.fail, line.period(), line.block()})
	}
}

// cameAgain has at least 40 entries of a pattern that goes on.
func cameAgain(entries []int, period int) []int {
	var all []int
	for start := 0; len(all) < 40; start += period {
		for _, time := range entries {
			all = append(all, start+time)
		}
	}
	return all
}

func TestPatternsThatGoOn(t *testing.T) {
	for _, c := range []struct {
		pattern string
		entries []int
		period  int
	}{
		// The number 0 alone, all numbers up to one of them, all thirteen numbers.
		{"x", []int{0}, 1}, {"xx", []int{0}, 2}, {"xxx", []int{0}, 3}, {"xxxx", []int{0}, 4}, {full(7), []int{0}, 7}, {full(11), []int{0}, 11}, {full(12), []int{0}, 12}, {full(13), []int{0}, 13},
		// Two numbers.
		{"x.x", []int{0, 1}, 4}, {"x..x", []int{0, 1, 2}, 6}, {"x...x", numbersUpTo(4), 8}, {"x......x", numbersUpTo(7), 14}, {"x...........x", numbersUpTo(12), 24},
		// Numbers that are equally far from each other.
		{"x.x.x", []int{0, 1}, 6}, {"x.x.x.x", []int{0, 1}, 8}, {"x..x..x", []int{0, 1, 2}, 9}, {"x....x....x", numbersUpTo(5), 15}, {"x..x..x..x..x", []int{0, 1, 2}, 15}, {"x...x...x...x", numbersUpTo(4), 16}, {"x.....x.....x", numbersUpTo(6), 18}, {"x.x.x.x.x.x.x", []int{0, 1}, 14},
		// Several numbers at once, again and again.
		{"xx..xx", []int{0, 2}, 8}, {"xx....xx", []int{0, 2, 4}, 12}, {"xxx...xxx", []int{0, 3}, 12}, {"xx..xx..xx", []int{0, 2}, 12}, {"xx......xx", []int{0, 2, 4, 6}, 16}, {"xx........xx", []int{0, 2, 4, 6, 8}, 20}, {"xxx......xxx", []int{0, 3, 6}, 18}, {"xxxx....xxxx", []int{0, 4}, 16}, {"x.x.....x.x", []int{0, 1, 4, 5}, 16},
	} {
		hasLine(t, patternOf(c.pattern), lineValues{cameAgain(c.entries, c.period), -1, c.period, c.period})
	}
}

func TestPatternsThatFail(t *testing.T) {
	for _, c := range []struct {
		pattern string
		entries []int
		fail    int
	}{
		// At the second entry.
		{"xx.x", []int{0}, 2}, {"x.xx", []int{0}, 1}, {"xxx.x", []int{0}, 3}, {"x.xxx", []int{0}, 1}, {"x..xx", []int{0}, 1}, {"x..........xx", []int{0}, 1}, {"x.xxxxxxxxxxx", []int{0}, 1}, {"xxxxxx.xxxxxx", []int{0}, 6}, {"xxxxxxxxxxx.x", []int{0}, 11},
		// Later: 0 1 4 and 2 3 6 leave 5 free, and not 6.
		{"xx..x", []int{0, 2}, 5}, {"xx...x", []int{0, 2}, 4}, {"x..x.x", []int{0, 1}, 2}, {"x.x...x", []int{0, 1}, 4}, {"xx......x", []int{0, 2, 4, 6}, 9}, {"xx.........x", []int{0, 2, 4, 6, 8}, 10}, {"x.....x....x", numbersUpTo(5), 5},
		// At the last times: 0 3 12, 1 4 13, 2 5 14, 6 9 18, 7 10 19 and 8 11 20 leave 15 free, and not 18.
		{"xx..........x", []int{0, 2, 4, 6, 8, 10}, 13}, {"xxx.........x", []int{0, 3, 6, 9}, 13}, {"xxxx........x", []int{0, 4, 8}, 13}, {"xxxxxx......x", []int{0, 6}, 13}, {"x.x.........x", []int{0, 1, 4, 5, 8, 9}, 14}, {"x..x........x", []int{0, 1, 2, 6, 7, 8}, 15},
	} {
		hasLine(t, patternOf(c.pattern), lineValues{c.entries, c.fail, 0, 0})
	}
}

// TestBuiltPatterns builds all blocks, from the block of time 0 on, by laying the pattern several times on end, or several patterns, in turns.
func TestBuiltPatterns(t *testing.T) {
	found := map[string]bool{}
	var build func(pattern []int, entries []int, length int)
	build = func(pattern []int, entries []int, length int) {
		for longer := 2 * length; longer-length < 13; longer += length {
			more := onEnd(pattern, length, longer)
			if slices.Max(more) > 12 {
				continue
			}
			hasLine(t, more, lineValues{cameAgain(entries, longer), -1, longer, longer})
			found[fmt.Sprint(more)] = true
			for longest := 2 * longer; longest <= 12; longest += longer {
				build(more, onEnd(entries, longer, longest), longest)
			}
		}
	}
	build([]int{0}, []int{0}, 1)
	for length := 2; length <= 12; length++ {
		build([]int{0}, numbersUpTo(length), length)
	}
	for pattern := range allPatterns {
		isBool(t, fmt.Sprintf("CanGoOn(%v)", pattern), impl.CanGoOn(pattern), len(pattern) == 1 || found[fmt.Sprint(pattern)])
	}
}

// onEnd lays a list from 0, from length, from twice the length and so on, up to a multiple of it.
func onEnd(list []int, length int, end int) []int {
	var all []int
	for start := 0; start < end; start += length {
		for _, time := range list {
			all = append(all, start+time)
		}
	}
	return all
}

// takenBy is a text with an x at each time that is taken if the pattern is laid on some entries. It has a digit where several are.
func takenBy(pattern []int, entries []int) string {
	var counts []int
	for _, entry := range entries {
		for _, element := range pattern {
			counts = append(counts, zeros(max(entry+element+1-len(counts), 0))...)
			counts[entry+element]++
		}
	}
	text := ""
	for _, count := range counts {
		text += ".x23456789"[count : count+1]
	}
	return text
}

// TestLineFunctionsAgree holds the functions against each other.
func TestLineFunctionsAgree(t *testing.T) {
	for pattern := range allPatterns {
		label := fmt.Sprint(pattern)
		goesOn := impl.CanGoOn(pattern)
		_, ok := impl.EntriesOf(pattern, 40)
		isBool(t, "EntriesOf 40 times "+label, ok, goesOn)
		isBool(t, "FailTime "+label+" is -1", impl.FailTime(pattern) == -1, goesOn)
		isBool(t, "LinePeriod "+label+" is greater than 0", impl.LinePeriod(pattern) > 0, goesOn)
		isBool(t, "PeriodEntries "+label+" has some", len(impl.PeriodEntries(pattern)) > 0, goesOn)
		if goesOn {
			comesAgain(t, pattern)
		} else {
			failsAtFailTime(t, pattern)
		}
		hasBlock(t, pattern)
	}
}

func comesAgain(t *testing.T, pattern []int) {
	t.Helper()
	period, entries := impl.LinePeriod(pattern), impl.PeriodEntries(pattern)
	all, _ := impl.EntriesOf(pattern, 40)
	sameInts(t, fmt.Sprintf("EntriesOf(%v, 40)", pattern), all, cameAgain(entries, period)[:40])
	if period <= 24 {
		first, second, _ := impl.LineTiling(pattern)
		label := fmt.Sprintf("LineTiling(%v)", pattern)
		isBool(t, "IsTiling of "+label, impl.IsTiling(first, second), true)
		isBool(t, "IsTight of "+label, impl.IsTight(impl.Canon{Inner: first, Outer: second}), true)
		sameInt(t, "the times of "+label, len(pattern)*len(entries), period)
	}
}

// failsAtFailTime looks for the time on which the pattern cannot be laid: it is free, all before are taken, and one of the others is not free.
func failsAtFailTime(t *testing.T, pattern []int) {
	t.Helper()
	var entries []int
	for count := range 41 {
		if more, ok := impl.EntriesOf(pattern, count); ok {
			entries = more
		}
	}
	text := takenBy(pattern, entries)
	fail := strings.Index(text+".", ".")
	sameInt(t, fmt.Sprintf("FailTime(%v)", pattern), impl.FailTime(pattern), fail)
	isBool(t, fmt.Sprintf("%v is laid on times that are free", pattern), strings.Trim(text, ".x") == "", true)
	again := takenBy(pattern, append(slices.Clone(entries), fail))
	isBool(t, fmt.Sprintf("%v can be laid on time %d", pattern, fail), strings.Contains(again, "2"), true)
}

// hasBlock looks for the least number of entries that take all times up to some time, and no later one.
func hasBlock(t *testing.T, pattern []int) {
	t.Helper()
	length := 0
	for count := 40; count > 0; count-- {
		entries, ok := impl.EntriesOf(pattern, count)
		if text := takenBy(pattern, entries); ok && text == full(len(text)) {
			length = len(text)
		}
	}
	sameInt(t, fmt.Sprintf("BlockLength(%v)", pattern), impl.BlockLength(pattern), length)
}

// hasNoLine is for lists that are no patterns.
func hasNoLine(t *testing.T, bad []int) {
	t.Helper()
	pattern, memory := listWithSpare(bad)
	before := slices.Clone(memory)
	name := shortName(impl.Rhythm{Beats: bad})
	isBool(t, "PatternOk of "+name, impl.PatternOk(pattern), false)
	for _, count := range append(extremes(), -1, 0, 1, 2, 3, 39, 40, 41) {
		got, ok := impl.EntriesOf(pattern, count)
		isBool(t, fmt.Sprintf("the bool of EntriesOf %d of %s", count, name), ok, false)
		sameInts(t, fmt.Sprintf("EntriesOf %d of %s", count, name), got, nil)
	}
	isBool(t, "CanGoOn of "+name, impl.CanGoOn(pattern), false)
	sameInt(t, "LinePeriod of "+name, impl.LinePeriod(pattern), 0)
	sameInts(t, "PeriodEntries of "+name, impl.PeriodEntries(pattern), nil)
	first, second, ok := impl.LineTiling(pattern)
	isNoRhythm(t, "the first rhythm of LineTiling of "+name, first, ok)
	isNoRhythm(t, "the second rhythm of LineTiling of "+name, second, ok)
	sameInt(t, "FailTime of "+name, impl.FailTime(pattern), -1)
	sameInt(t, "BlockLength of "+name, impl.BlockLength(pattern), 0)
	if !slices.Equal(memory, before) {
		t.Errorf("a function of lines changes %s", name)
	}
}

func listsThatAreNoPatterns() [][]int {
	lists := [][]int{
		nil, {},
		// The first one is not 0.
		{1}, {2}, {12}, {13}, {-1}, {-12}, {1, 2}, {1, 2, 3}, {2, 4}, {5, 12}, {-1, 0}, {-1, 0, 1}, {-12, 0, 12}, numbersFrom1(13), {1, 0}, {12, 0},
		// Not in ascending order.
		{0, 2, 1}, {0, 3, 2, 4}, {0, 1, 12, 11}, {0, 12, 1}, {0, 5, 0}, {0, 1, 0}, {0, 2, 4, 6, 5}, {0, 12, 11, 10, 9, 8, 7, 6, 5, 4, 3, 2, 1},
		// Equal numbers.
		{0, 0}, {0, 0, 1}, {0, 1, 1}, {0, 1, 1, 2}, {0, 12, 12}, {0, 3, 6, 6}, {0, 0, 0, 0}, zeros(13), zeros(14),
		// Negative numbers, and such that are too great.
		{0, -1}, {0, -1, 1}, {0, 1, -1}, {0, 2, -2}, {0, -12}, {0, 13}, {0, 1, 13}, {0, 12, 13}, {0, 14}, {0, 24}, {0, 25}, {0, 63}, {0, 64}, {0, 65}, {0, 128}, {0, 256}, {0, 257}, {0, 1000}, {0, 1, 2, 1000}, numbersUpTo(14), append(numbersUpTo(13), 14), append(numbersUpTo(12), 13),
		// Long lists.
		append(numbersUpTo(13), 12), append(numbersUpTo(13), 0), append(numbersUpTo(13), numbersUpTo(13)...), numbersUpTo(15), numbersUpTo(40), numbersUpTo(41), numbersUpTo(1000), numbersUpTo(100000), zeros(1000), zeros(100000), append([]int{0}, times(1, 100000)...), append([]int{0}, times(12, 100000)...), append([]int{0}, times(-1, 100000)...), times(13, 100000), append(numbersUpTo(13), times(12, 100000)...),
	}
	for _, great := range append(extremes(), 1<<32, 1<<32+1, 1<<32+12, -1<<32, -1<<32+1, 1<<62, 1<<62+1, -1<<62, -1<<62+1) {
		lists = append(lists, []int{great}, []int{0, great}, []int{great, 0}, []int{great, 1}, []int{0, great, 1}, []int{0, 1, great}, []int{0, great, great}, []int{great, great + 1}, []int{0, 5, great, 12}, []int{great, -great}, []int{0, great, -great}, append(numbersUpTo(13), great), append([]int{great}, numbersFrom1(13)...))
	}
	return lists
}

func TestListsThatAreNoPatterns(t *testing.T) {
	for _, bad := range listsThatAreNoPatterns() {
		hasNoLine(t, bad)
	}
}

// TestPatternOkOfShortLists takes all lists of up to 4 of some numbers: a pattern is what is left of the numbers from 0 to 12 if those are taken that the list has.
func TestPatternOkOfShortLists(t *testing.T) {
	lists := [][]int{nil}
	for i := 0; len(lists[i]) < 4; i++ {
		for _, n := range []int{-1, 0, 1, 2, 7, 11, 12, 13} {
			lists = append(lists, append(slices.Clone(lists[i]), n))
		}
	}
	for _, list := range lists {
		ordered := slices.DeleteFunc(numbersUpTo(13), func(n int) bool { return !slices.Contains(list, n) })
		if slices.Contains(list, 0) && slices.Equal(list, ordered) {
			isBool(t, fmt.Sprintf("PatternOk(%v)", list), impl.PatternOk(list), true)
		} else {
			hasNoLine(t, list)
		}
	}
}

// TestOneFaultInPatterns replaces each number of each pattern by some that make it none.
func TestOneFaultInPatterns(t *testing.T) {
	for pattern := range allPatterns {
		for i, element := range pattern {
			for _, n := range []int{-1, -element, 13, 0, pattern[max(i-1, 0)], pattern[min(i+1, len(pattern)-1)]} {
				bad := slices.Clone(pattern)
				bad[i] = n
				if !slices.Equal(bad, pattern) {
					isBool(t, fmt.Sprintf("PatternOk(%v)", bad), impl.PatternOk(bad), false)
				}
			}
		}
		for _, last := range []int{-1, 0, pattern[len(pattern)-1], 13, 14} {
			bad := append(slices.Clone(pattern), last)
			isBool(t, fmt.Sprintf("PatternOk(%v)", bad), impl.PatternOk(bad), false)
		}
	}
}

// TestReturnedLinesOfTimesAreNew has all patterns; some of them are equal to what is returned.
func TestReturnedLinesOfTimesAreNew(t *testing.T) {
	for list := range allPatterns {
		pattern, memory := listWithSpare(list)
		before := slices.Clone(memory)
		label := fmt.Sprint(list)
		for _, count := range []int{0, 1, 2, len(pattern), 40} {
			isNewList(t, fmt.Sprintf("EntriesOf %s %d", label, count), func() []int { entries, _ := impl.EntriesOf(pattern, count); return entries })
		}
		isNewList(t, "PeriodEntries "+label, func() []int { return impl.PeriodEntries(pattern) })
		impl.PatternOk(pattern)
		impl.FailTime(pattern)
		impl.BlockLength(pattern)
		if impl.CanGoOn(pattern) {
			tilingIsNew(t, pattern)
		}
		if !slices.Equal(memory, before) {
			t.Errorf("a function of lines changes %s", label)
		}
	}
}

func tilingIsNew(t *testing.T, pattern []int) {
	t.Helper()
	label := fmt.Sprintf("LineTiling(%v)", pattern)
	tiling := func() impl.Canon {
		first, second, _ := impl.LineTiling(pattern)
		return impl.Canon{Inner: first, Outer: second}
	}
	isNewMemory(t, "the first rhythm of "+label, func() impl.Rhythm { return tiling().Inner })
	isNewMemory(t, "the second rhythm of "+label, func() impl.Rhythm { return tiling().Outer })
	haveTwoMemories(t, label, tiling)
}

// TestPatternsOfChangedMemory: a result keeps what it has if the pattern is changed afterwards, and the next call sees the change.
func TestPatternsOfChangedMemory(t *testing.T) {
	for _, text := range []string{"x", "xx", "x.x", "x.x.x", "xx..xx", "x..x..x..x", full(13), "x...........x"} {
		pattern, memory := listWithSpare(patternOf(text))
		first, second, ok := impl.LineTiling(pattern)
		entries, _ := impl.EntriesOf(pattern, 40)
		line := laid(patternOf(text))
		clear(memory)
		label := fmt.Sprintf("LineTiling(%v), of which the pattern was changed", patternOf(text))
		isRhythm(t, label, first, ok, rhythmOfText(bar(line.period(), patternOf(text)...)))
		isRhythm(t, label, second, ok, rhythmOfText(bar(line.period(), line.entries[:len(second.Beats)]...)))
		sameInts(t, fmt.Sprintf("EntriesOf(%v, 40), of which the pattern was changed", patternOf(text)), entries, line.entries[:40])
		isBool(t, fmt.Sprintf("PatternOk(%v)", pattern), impl.PatternOk(pattern), len(pattern) == 1)
	}
}

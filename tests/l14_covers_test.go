package tests

import (
	"fmt"
	"math"
	"slices"
	"strings"
	"testing"

	"loop.example/g03204/impl"
)

// The expected values of this file are made of texts: a pattern has an x for each element, its mirror is the text read backwards, and a cover has a letter for each time.

const coverLetters = "abcdefghijklmnopqrstuvwx"

func backwards(text string) string { return mirroredText("." + text)[1:] }

func isSymmetric(text string) bool { return text == backwards(text) }

func textOfPattern(pattern []int) string { return bar(slices.Max(pattern)+1, pattern...) }

// pieceOf has an x for each time that a number of a cover takes. It is empty for the mirror of a pattern that is equal to it.
func pieceOf(text string, number int) string {
	if number%2 == 0 {
		return bar(number/2) + text
	}
	if isSymmetric(text) {
		return ""
	}
	return bar(number/2) + backwards(text)
}

// lettersOf has the letter of the number of a cover that takes the time, for each time.
func lettersOf(text string, n int, cover []int) string {
	letters := []byte(bar(n))
	for i, number := range cover {
		for _, time := range placesOf(pieceOf(text, number)) {
			letters[time] = coverLetters[i]
		}
	}
	return string(letters)
}

// coverOf reads a cover from its letters.
func coverOf(t *testing.T, text string, letters string) []int {
	t.Helper()
	var cover []int
	for _, letter := range coverLetters {
		time := strings.IndexRune(letters, letter)
		if time < 0 {
			continue
		}
		marked := strings.Map(func(r rune) rune {
			if r == letter {
				return 'x'
			}
			return '.'
		}, letters)
		switch strings.Trim(marked, ".") {
		case text:
			cover = append(cover, 2*time)
		case backwards(text):
			cover = append(cover, 2*time+1)
		default:
			t.Errorf("%c of %q is not %q", letter, letters, text)
		}
	}
	return cover
}

func coversOf(t *testing.T, text string, letters []string) [][]int {
	t.Helper()
	var covers [][]int
	for _, one := range letters {
		covers = append(covers, coverOf(t, text, one))
	}
	return covers
}

// searchedCovers goes through all numbers from 0 on, and tries each one with it and without it.
func searchedCovers(text string, n int) [][]int {
	var covers [][]int
	var search func(number int, cover []int, times string)
	search = func(number int, cover []int, times string) {
		if strings.Contains(times[:number/2], ".") {
			return // No later number takes so early a time.
		}
		if number == 2*n {
			covers = append(covers, cover)
			return
		}
		if more, ok := laidIn(times, pieceOf(text, number)); ok {
			search(number+1, append(slices.Clone(cover), number), more)
		}
		search(number+1, cover, times)
	}
	search(0, nil, bar(n))
	slices.SortFunc(covers, slices.Compare)
	return covers
}

func laidIn(times string, piece string) (string, bool) {
	if piece == "" || len(piece) > len(times) {
		return "", false
	}
	for _, time := range placesOf(piece) {
		if times[time] == 'x' {
			return "", false
		}
		times = withX(times, time)
	}
	return times, true
}

// isCounted counts how often each time is taken.
func isCounted(text string, n int, list []int) bool {
	counts := zeros(n)
	for i, number := range list {
		if number < 0 || i > 0 && number <= list[i-1] {
			return false
		}
		piece := pieceOf(text, number)
		if piece == "" || len(piece) > n {
			return false
		}
		for _, time := range placesOf(piece) {
			counts[time]++
		}
	}
	return slices.Equal(counts, ones(n))
}

func isMirrored(t *testing.T, text string) {
	t.Helper()
	pattern := patternOf(text)
	sameInts(t, fmt.Sprintf("MirrorPattern(%v)", pattern), impl.MirrorPattern(pattern), placesOf(backwards(text)))
	isBool(t, fmt.Sprintf("IsMirrorPattern(%v)", pattern), impl.IsMirrorPattern(pattern), isSymmetric(text))
}

func hasLengths(t *testing.T, text string, lengths []int) {
	t.Helper()
	pattern := patternOf(text)
	sameInts(t, fmt.Sprintf("CoverLengths(%v)", pattern), impl.CoverLengths(pattern), lengths)
	least := 0
	if len(lengths) > 0 {
		least = lengths[0]
	}
	sameInt(t, fmt.Sprintf("LeastCover(%v)", pattern), impl.LeastCover(pattern), least)
}

// hasCovers is for n from 0 to 24.
func hasCovers(t *testing.T, text string, n int, want [][]int) {
	t.Helper()
	pattern := patternOf(text)
	listed := want
	if n > 16 {
		listed = nil
	}
	sameInt(t, fmt.Sprintf("CountCovers(%v, %d)", pattern, n), impl.CountCovers(pattern, n), len(want))
	sameLists(t, fmt.Sprintf("CoversOf(%v, %d)", pattern, n), impl.CoversOf(pattern, n), listed)
	for _, cover := range want {
		isBool(t, fmt.Sprintf("IsCover(%v, %d, %v)", pattern, n, cover), impl.IsCover(pattern, n, cover), true)
		isText(t, fmt.Sprintf("CoverText(%v, %d, %v)", pattern, n, cover), impl.CoverText(pattern, n, cover), lettersOf(text, n, cover))
	}
}

func isText(t *testing.T, label string, got string, want string) {
	t.Helper()
	if got != want {
		t.Errorf("%s = %q, want %q", label, got, want)
	}
}

func isNoCover(t *testing.T, pattern []int, n int, list []int) {
	t.Helper()
	if impl.IsCover(pattern, n, list) || impl.CoverText(pattern, n, list) != "" {
		name := shortName(impl.Rhythm{Size: n, Beats: list})
		t.Errorf("of %v and %s, IsCover = %t and CoverText = %q, want false and none", pattern, name, impl.IsCover(pattern, n, list), impl.CoverText(pattern, n, list))
	}
}

func isListIn(list []int, lists [][]int) bool {
	return slices.ContainsFunc(lists, func(one []int) bool { return slices.Equal(one, list) })
}

func TestMirrorPattern(t *testing.T) {
	for text, mirror := range map[string]string{
		// The number 0 alone, two numbers, all numbers up to one of them.
		"x": "x", "xx": "xx", "x.x": "x.x", "x......x": "x......x", "x...........x": "x...........x", "xxx": "xxx", full(12): full(12), full(13): full(13),
		"xx.xx": "xx.xx", "x.x.x": "x.x.x", "xx..xx": "xx..xx", "x.xxx.x": "x.xxx.x", "x..xx..x": "x..xx..x", "xxxxxx.xxxxxx": "xxxxxx.xxxxxx", "x.....x.....x": "x.....x.....x", "x.xxxxxxxxx.x": "x.xxxxxxxxx.x",
		"xx.x": "x.xx", "x.xx": "xx.x", "xx..x": "x..xx", "xxx.x": "x.xxx", "x..x.xx": "xx.x..x", "xx.x.xx.x": "x.xx.x.xx",
		"xx..........x": "x..........xx", "xxxxxxxxxxx.x": "x.xxxxxxxxxxx", "xxxxx.xxxxxxx": "xxxxxxx.xxxxx", "x.....x....xx": "xx....x.....x",
	} {
		isText(t, "the mirror of "+text, backwards(text), mirror)
		isMirrored(t, text)
	}
	sameInts(t, "MirrorPattern of 0 1 3", impl.MirrorPattern([]int{0, 1, 3}), []int{0, 2, 3})
	sameInts(t, "MirrorPattern of 0 2 12", impl.MirrorPattern([]int{0, 2, 12}), []int{0, 10, 12})
}

func TestCoversByHand(t *testing.T) {
	for _, c := range []struct {
		text   string
		n      int
		covers []string
	}{
		// No times are covered by no numbers, whatever the pattern.
		{"x", 0, []string{""}}, {"xx", 0, []string{""}}, {"xx.x", 0, []string{""}}, {"x...........x", 0, []string{""}}, {full(13), 0, []string{""}},
		{"x", 1, []string{"a"}}, {"x", 2, []string{"ab"}}, {"x", 16, []string{"abcdefghijklmnop"}}, {"x", 17, []string{"abcdefghijklmnopq"}}, {"x", 24, []string{coverLetters}},
		{"xx", 1, nil}, {"xx", 2, []string{"aa"}}, {"xx", 3, nil}, {"xx", 16, []string{"aabbccddeeffgghh"}}, {"xx", 24, []string{"aabbccddeeffgghhiijjkkll"}},
		// Patterns that are equal to their mirrors.
		{"x.x", 2, nil}, {"x.x", 3, nil}, {"x.x", 4, []string{"abab"}}, {"x.x", 6, nil}, {"x.x", 8, []string{"ababcdcd"}}, {"x..x", 6, []string{"abcabc"}}, {"xx..xx", 8, []string{"aabbaabb"}}, {"x.x.x", 12, []string{"abababcdcdcd"}}, {"x...x...x...x", 16, []string{"abcdabcdabcdabcd"}}, {"x...........x", 24, []string{"abcdefghijklabcdefghijkl"}}, {full(12), 24, []string{strings.Repeat("a", 12) + strings.Repeat("b", 12)}}, {full(13), 13, []string{strings.Repeat("a", 13)}}, {full(13), 12, nil}, {full(13), 24, nil},
		// The pattern before its mirror, and after it.
		{"xx.x", 4, nil}, {"xx.x", 5, nil}, {"xx.x", 6, []string{"aababb"}}, {"xx.x", 12, []string{"aababbccdcdd"}}, {"x.xx", 6, []string{"aababb"}}, {"xx..x", 6, []string{"abbaab"}}, {"x..xx", 6, []string{"abbaab"}}, {"xxx.x", 8, []string{"aaababbb"}}, {"xx..x.x", 8, nil}, {"xx.x..x", 8, []string{"abbabaab"}}, {"xx.x.x", 8, []string{"aabababb"}},
		// Several covers.
		{"xx..x", 12, []string{"aabbacbdccdd", "abbaabcddccd"}}, {"x..xx", 12, []string{"abbaabcddccd", "aabbacbdccdd"}},
		{"xx...x", 9, []string{"aabccabbc", "abbcaabcc"}}, {"x...xx", 9, []string{"abbcaabcc", "aabccabbc"}},
		{"xxx....x", 12, []string{"aaabcccabbbc", "abbbcaaabccc"}}, {"x....xxx", 12, []string{"abbbcaaabccc", "aaabcccabbbc"}},
		{"xx......x", 15, []string{"aabccdeeabbcdde", "abbcddeaabccdee"}}, {"x......xx", 15, []string{"abbcddeaabccdee", "aabccdeeabbcdde"}},
		{"xxx.....xx", 15, []string{"aaabbcccaabbbcc", "aabbbccaaabbccc"}}, {"xxxx.....x", 15, []string{"aaaabccccabbbbc", "abbbbcaaaabcccc"}},
		// The number 12.
		{"xxxxxx......x", 14, []string{"abbbbbbaaaaaab"}}, {"xxx.xxxx....x", 16, []string{"aaabaaaabbbbabbb"}}, {"xxx..xxx...xx", 16, []string{"aaabbaaabbbaabbb"}}, {"x.x.x.......x", 16, []string{"abcdcdcdabababcd"}}, {"xxxxxxxxxxx.x", 24, []string{"aaaaaaaaaaababbbbbbbbbbb"}}, {"xx..........x", 23, nil},
		// No cover.
		{"x.xx.x", 24, nil}, {"xx.xx", 24, nil}, {"xx.xx", 5, nil}, {"xxxxxx.xxxxxx", 24, nil}, {"x.x......x", 24, nil},
	} {
		hasCovers(t, c.text, c.n, coversOf(t, c.text, c.covers))
	}
}

func TestCoversAsNumbers(t *testing.T) {
	sameLists(t, "CoversOf 0 1 3 and 6", impl.CoversOf([]int{0, 1, 3}, 6), [][]int{{0, 5}})
	sameLists(t, "CoversOf 0 2 3 and 6", impl.CoversOf([]int{0, 2, 3}, 6), [][]int{{1, 4}})
	sameLists(t, "CoversOf 0 1 4 and 12", impl.CoversOf([]int{0, 1, 4}, 12), [][]int{{0, 4, 11, 15}, {1, 2, 13, 14}})
	sameLists(t, "CoversOf 0 3 4 and 12", impl.CoversOf([]int{0, 3, 4}, 12), [][]int{{0, 3, 12, 15}, {1, 5, 10, 14}})
	sameLists(t, "CoversOf 0 2 and 8", impl.CoversOf([]int{0, 2}, 8), [][]int{{0, 2, 8, 10}})
	isText(t, "CoverText of 0 1 4 and 12", impl.CoverText([]int{0, 1, 4}, 12, []int{0, 4, 11, 15}), "aabbacbdccdd")
}

func TestCoverLengths(t *testing.T) {
	for text, lengths := range map[string][]int{
		"x": numbersFrom1(25), "xx": {2, 4, 6, 8, 10, 12, 14, 16, 18, 20, 22, 24}, "x.x": {4, 8, 12, 16, 20, 24}, "x....x": {10, 20}, "xxxxxxx": {7, 14, 21}, "x......x": {14}, "x...........x": {24}, full(12): {12, 24}, full(13): {13},
		"xx.x": {6, 12, 18, 24}, "xxx.x": {8, 16, 24}, "xx...x": {9, 12, 18, 21, 24}, "x...xx": {9, 12, 18, 21, 24}, "x.x..x": {18, 24}, "xx....x": {12, 18, 24}, "xx......x": {15, 18, 24}, "xxxxxx......x": {14}, "xx..........x": {24}, "x.xxxxxxxxxxx": {24},
		"xx.xx": nil, "x.xx.x": nil, "xxxxxx.xxxxxx": nil, "x.x......x": nil,
	} {
		hasLengths(t, text, lengths)
	}
}

func TestCoversOfAllPatterns(t *testing.T) {
	for pattern := range allPatterns {
		text := textOfPattern(pattern)
		isMirrored(t, text)
		var lengths []int
		for n := range 25 {
			covers := searchedCovers(text, n)
			hasCovers(t, text, n, covers)
			if n > 0 && len(covers) > 0 {
				lengths = append(lengths, n)
			}
		}
		hasLengths(t, text, lengths)
	}
}

func TestLengthsOutOfRange(t *testing.T) {
	for _, text := range []string{"x", "xx", "xx.x", "xx..x", "xx...x", "xxxxx", full(13), "xxxxxxxxxxx.x", "xx.xx"} {
		pattern := patternOf(text)
		for _, n := range append(extremes(), -24, -16, -2, -1, 25, 26, 28, 30, 32, 63, 64, 65, 1000, 1<<32, 1<<32+6, -1<<32+6, 1<<62) {
			sameInt(t, fmt.Sprintf("CountCovers(%v, %d)", pattern, n), impl.CountCovers(pattern, n), -1)
			sameLists(t, fmt.Sprintf("CoversOf(%v, %d)", pattern, n), impl.CoversOf(pattern, n), nil)
			for _, list := range [][]int{nil, {0}, {0, 5}, {1, 2}, {-1}} {
				isNoCover(t, pattern, n, list)
			}
			if 0 < n && n <= 32 {
				for _, cover := range searchedCovers(text, n) {
					isNoCover(t, pattern, n, cover)
				}
			}
		}
		// From 17 on covers are counted, but not listed.
		for n := 17; n <= 24; n++ {
			sameInt(t, fmt.Sprintf("CountCovers(%v, %d)", pattern, n), impl.CountCovers(pattern, n), len(searchedCovers(text, n)))
			sameLists(t, fmt.Sprintf("CoversOf(%v, %d)", pattern, n), impl.CoversOf(pattern, n), nil)
		}
	}
}

func TestListsThatAreNoCovers(t *testing.T) {
	for _, c := range []struct {
		text  string
		n     int
		lists [][]int
	}{
		// A time is left out: the first one, one between, the last one, all of them.
		{"xx.x", 6, [][]int{nil, {}, {0}, {5}, {1}}}, {"x", 3, [][]int{nil, {2, 4}, {0, 4}, {0, 2}, {2}}}, {"xx", 3, [][]int{{0}, {2}}}, {"x.x", 4, [][]int{{0}, {2}}}, {"x", 1, [][]int{nil}},
		// A time is taken twice.
		{"xx.x", 6, [][]int{{0, 2}, {0, 4}, {0, 0, 5}, {0, 5, 5}, {0, 3, 5}, {0, 4, 5}}}, {"x", 2, [][]int{{0, 0, 2}, {0, 2, 2}}}, {"xx", 3, [][]int{{0, 2}}}, {"xxx", 4, [][]int{{0, 2}}},
		// A time beyond n is taken.
		{"xx.x", 6, [][]int{{0, 5, 12}, {0, 5, 13}, {0, 5, 12, 17}, {0, 6}, {0, 7}}}, {"x", 1, [][]int{{0, 2}, {2}}}, {"x", 0, [][]int{{0}, {1}, {2}, {-1}, {-2}, {0, 2}}}, {"xx", 1, [][]int{{0}}}, {"x.x", 3, [][]int{{0, 2}}}, {"xx.x", 5, [][]int{{0, 5}}}, {"x", 24, [][]int{evenNumbers(25), evenNumbers(23)}},
		// A time before 0 is taken: the division by 2 rounds towards 0.
		{"x", 1, [][]int{{-1}, {-2}, {-1, 0}, {-2, 0}}}, {"xx", 1, [][]int{{-2}, {-1}}}, {"xx.x", 6, [][]int{{-1, 4}, {-1, 5}, {0, -5}, {-2, 0, 5}, {-1, 0, 5}}}, {"x.xx", 6, [][]int{{-1, 4}}}, {"xx..x", 6, [][]int{{-1, 2}}},
		// The mirror is equal to the pattern, and so is not used.
		{"x", 1, [][]int{{1}, {0, 1}}}, {"x", 2, [][]int{{0, 3}, {1, 2}, {1, 3}}}, {"xx", 4, [][]int{{0, 5}, {1, 4}, {1, 5}}}, {"x.x", 4, [][]int{{0, 3}, {1, 2}, {1, 3}}}, {full(13), 13, [][]int{{1}}}, {"x", 0, [][]int{{1}}},
		// An even and an odd number for the same time.
		{"xx.x", 6, [][]int{{0, 1}, {0, 1, 5}, {0, 1, 4}, {0, 4, 5}, {1, 5}, {0, 1, 4, 5}}}, {"x", 1, [][]int{{0, 1}, {1, 0}}},
		// The other side.
		{"xx.x", 6, [][]int{{1, 4}, {1, 5}, {0, 4}}}, {"x.xx", 6, [][]int{{0, 5}, {0, 4}}}, {"xx..x", 6, [][]int{{0, 3}}},
		// Not in ascending order.
		{"xx.x", 6, [][]int{{5, 0}}}, {"xx..x", 6, [][]int{{2, 1}}}, {"x", 3, [][]int{{0, 4, 2}, {2, 0, 4}, {4, 2, 0}, {2, 4, 0}}}, {"xx..x", 12, [][]int{{2, 1, 13, 14}, {1, 2, 14, 13}, {1, 13, 2, 14}, {14, 13, 2, 1}}},
		// A cover of another n, or by another pattern.
		{"xx.x", 12, [][]int{{0, 5}}}, {"xx.x", 5, [][]int{{0, 5}}}, {"xx.x", 7, [][]int{{0, 5}}}, {"xx.x", 0, [][]int{{0, 5}}}, {"xx", 4, [][]int{{0, 2}}}, {"x.x", 4, [][]int{{0, 4}}},
		// Long lists.
		{"x", 24, [][]int{evenNumbers(1000), evenNumbers(100000), numbersUpTo(24), numbersUpTo(100000), zeros(24), zeros(100000), times(2, 100000), append(evenNumbers(24), zeros(100000)...), append(evenNumbers(24), numbersUpTo(100000)...), append(zeros(100000), evenNumbers(24)...)}}, {"xx.x", 6, [][]int{numbersUpTo(100000), append([]int{0, 5}, times(5, 100000)...)}}, {"x", 0, [][]int{zeros(100000)}},
	} {
		for _, list := range c.lists {
			isNoCover(t, patternOf(c.text), c.n, list)
		}
	}
}

func evenNumbers(count int) []int {
	var list []int
	for i := range count {
		list = append(list, 2*i)
	}
	return list
}

// TestIsCoverOfManyLists takes all lists of at most 3 numbers, in any order, and all ascending lists of numbers up to twice n and beyond.
func TestIsCoverOfManyLists(t *testing.T) {
	for n := range 6 {
		lists := [][]int{nil}
		for i := 0; len(lists[i]) < 3; i++ {
			for number := -3; number <= 2*n+2; number++ {
				lists = append(lists, append(slices.Clone(lists[i]), number))
			}
		}
		for mask := range 1 << (2*n + 2) {
			lists = append(lists, rhythmOfMask(2*n+2, mask).Beats)
		}
		for pattern := range allPatterns {
			if slices.Max(pattern) > 5 {
				break
			}
			text := textOfPattern(pattern)
			for _, list := range lists {
				if impl.IsCover(pattern, n, list) != isCounted(text, n, list) {
					t.Errorf("IsCover(%v, %d, %v) = %t", pattern, n, list, !isCounted(text, n, list))
				}
			}
		}
	}
}

// faultsIn changes a list in many ways.
func faultsIn(list []int, n int) [][]int {
	faults := [][]int{}
	for i, number := range list {
		for _, other := range []int{number - 2, number - 1, number + 1, number + 2, number ^ 1, -number, -number - 1, 2 * n, 2*n + 1, number + 1<<32, number - 1<<32, number + 1<<33, number ^ 1<<62, number + math.MinInt64, math.MaxInt64, math.MaxInt64 - 1, math.MinInt64 + 1} {
			faults = append(faults, slices.Concat(list[:i], []int{other}, list[i+1:]), slices.Insert(slices.Clone(list), i, other), slices.Insert(slices.Clone(list), i+1, other))
		}
		faults = append(faults, slices.Delete(slices.Clone(list), i, i+1), slices.Insert(slices.Clone(list), i, number), list[:i], list[i+1:])
		if i > 0 {
			swapped := slices.Clone(list)
			swapped[i-1], swapped[i] = swapped[i], swapped[i-1]
			faults = append(faults, swapped)
		}
	}
	return append(faults, append(slices.Clone(list), list...))
}

func TestFaultsInCovers(t *testing.T) {
	for pattern := range allPatterns {
		text := textOfPattern(pattern)
		for n := 1; n <= 24; n++ {
			covers := searchedCovers(text, n)
			for _, cover := range covers {
				for _, fault := range faultsIn(cover, n) {
					if !isListIn(fault, covers) {
						isNoCover(t, pattern, n, fault)
					}
				}
				for other := range 27 {
					if other != n {
						isNoCover(t, pattern, other, cover)
					}
				}
			}
		}
	}
}

func TestNumbersThatAreTooGreat(t *testing.T) {
	for _, c := range []struct {
		text  string
		n     int
		cover []int
	}{{"x", 1, []int{0}}, {"x", 0, nil}, {"xx", 4, []int{0, 4}}, {"xx.x", 6, []int{0, 5}}, {"xx..x", 6, []int{1, 2}}, {"x", 24, evenNumbers(24)}} {
		for _, great := range append(extremes(), 1<<31, 1<<32, 1<<32+1, 1<<33, -1<<32, -1<<32+1, 1<<62, 1<<62+1, 1<<62+5, -1<<62, -1<<62+1, math.MinInt64+5, math.MaxInt64-5) {
			isNoCover(t, patternOf(c.text), c.n, []int{great})
			isNoCover(t, patternOf(c.text), c.n, append(slices.Clone(c.cover), great))
			isNoCover(t, patternOf(c.text), c.n, append([]int{great}, c.cover...))
			isNoCover(t, patternOf(c.text), c.n, []int{great, great + 1})
			isNoCover(t, patternOf(c.text), c.n, times(great, max(c.n, 1)))
		}
	}
}

// TestCoverFunctionsAgree holds the functions against each other.
func TestCoverFunctionsAgree(t *testing.T) {
	for pattern := range allPatterns {
		mirror := impl.MirrorPattern(pattern)
		label := fmt.Sprint(pattern)
		isBool(t, "PatternOk of the mirror of "+label, impl.PatternOk(mirror), true)
		sameInts(t, "MirrorPattern twice of "+label, impl.MirrorPattern(mirror), pattern)
		isBool(t, "IsMirrorPattern of the mirror of "+label, impl.IsMirrorPattern(mirror), impl.IsMirrorPattern(pattern))
		isBool(t, "IsMirrorPattern of "+label, impl.IsMirrorPattern(pattern), slices.Equal(pattern, mirror))
		sameInts(t, "CoverLengths of the mirror of "+label, impl.CoverLengths(mirror), impl.CoverLengths(pattern))
		lengths := impl.CoverLengths(pattern)
		isBool(t, "LeastCover is the first of CoverLengths of "+label, impl.LeastCover(pattern) == append(slices.Clone(lengths), 0)[0], true)
		for n := 1; n <= 24; n++ {
			isBool(t, fmt.Sprintf("CoverLengths of %s has %d", label, n), slices.Contains(lengths, n), impl.CountCovers(pattern, n) > 0)
			isBool(t, fmt.Sprintf("CountCovers(%s, %d) is as for its mirror", label, n), impl.CountCovers(pattern, n) == impl.CountCovers(mirror, n), true)
		}
		for n := range 17 {
			coversAgree(t, pattern, n)
		}
		agreesWithLine(t, pattern)
	}
}

func coversAgree(t *testing.T, pattern []int, n int) {
	t.Helper()
	text, mirror := textOfPattern(pattern), impl.MirrorPattern(pattern)
	covers := impl.CoversOf(pattern, n)
	label := fmt.Sprintf("CoversOf(%v, %d)", pattern, n)
	sameInt(t, "the number of "+label, len(covers), impl.CountCovers(pattern, n))
	isBool(t, label+" is in ascending order", slices.IsSortedFunc(covers, slices.Compare), true)
	for _, cover := range covers {
		isBool(t, fmt.Sprintf("IsCover(%v, %d, %v)", pattern, n, cover), impl.IsCover(pattern, n, cover), true)
		letters := impl.CoverText(pattern, n, cover)
		sameInts(t, fmt.Sprintf("the cover with the text %q", letters), coverOf(t, text, letters), cover)
		sameInt(t, fmt.Sprintf("the times of %v in %s", cover, label), len(pattern)*len(cover), n)
		isBool(t, fmt.Sprintf("%v in %s read backwards is a cover", cover, label), impl.IsCover(pattern, n, coverBackwards(text, n, cover)), true)
		isBool(t, fmt.Sprintf("%v in %s is one of the mirror, with the sides exchanged", cover, label), impl.IsCover(mirror, n, otherSides(text, cover)), true)
		for _, other := range covers {
			isBool(t, fmt.Sprintf("%v and %v in %s, one after the other, are a cover", cover, other, label), impl.IsCover(pattern, 2*n, append(slices.Clone(cover), movedBy(2*n, other)...)), 2*n <= 24)
		}
	}
}

// otherSides exchanges the pattern and its mirror.
func otherSides(text string, cover []int) []int {
	var others []int
	for _, number := range cover {
		if !isSymmetric(text) {
			number ^= 1
		}
		others = append(others, number)
	}
	return others
}

func coverBackwards(text string, n int, cover []int) []int {
	var turned []int
	for _, number := range otherSides(text, cover) {
		time := n - len(text) - number/2
		turned = append(turned, 2*time+number%2)
	}
	slices.Reverse(turned)
	slices.Sort(turned)
	return turned
}

func movedBy(k int, list []int) []int {
	var moved []int
	for _, number := range list {
		moved = append(moved, number+k)
	}
	return moved
}

// agreesWithLine lays the pattern without its mirror, as chapter 14 does.
func agreesWithLine(t *testing.T, pattern []int) {
	t.Helper()
	period := impl.LinePeriod(pattern)
	if period > 0 && period <= 24 {
		var cover []int
		for _, time := range impl.PeriodEntries(pattern) {
			cover = append(cover, 2*time)
		}
		isBool(t, fmt.Sprintf("IsCover(%v, %d, %v)", pattern, period, cover), impl.IsCover(pattern, period, cover), true)
	}
	if impl.IsMirrorPattern(pattern) {
		sameInt(t, fmt.Sprintf("LeastCover(%v)", pattern), impl.LeastCover(pattern), period)
	}
}

func TestCoversOfListsThatAreNoPatterns(t *testing.T) {
	for _, bad := range listsThatAreNoPatterns() {
		pattern, memory := listWithSpare(bad)
		before := slices.Clone(memory)
		name := shortName(impl.Rhythm{Beats: bad})
		sameInts(t, "MirrorPattern of "+name, impl.MirrorPattern(pattern), nil)
		isBool(t, "IsMirrorPattern of "+name, impl.IsMirrorPattern(pattern), false)
		sameInt(t, "LeastCover of "+name, impl.LeastCover(pattern), 0)
		sameInts(t, "CoverLengths of "+name, impl.CoverLengths(pattern), nil)
		for _, n := range append(extremes(), -1, 0, 1, 2, 3, 6, 12, 13, 14, 16, 17, 24, 25) {
			sameInt(t, fmt.Sprintf("CountCovers %d of %s", n, name), impl.CountCovers(pattern, n), -1)
			sameLists(t, fmt.Sprintf("CoversOf %d of %s", n, name), impl.CoversOf(pattern, n), nil)
			for _, list := range [][]int{nil, {0}, {0, 2}, {0, 5}, {1}, evenNumbers(24), bad} {
				isNoCover(t, pattern, n, list)
			}
		}
		if !slices.Equal(memory, before) {
			t.Errorf("a function of covers changes %s", name)
		}
	}
}

// TestReturnedCoversAreNew has all patterns; some of them are equal to their mirrors, so that the result is equal to the argument.
func TestReturnedCoversAreNew(t *testing.T) {
	for one := range allPatterns {
		pattern, memory := listWithSpare(one)
		before := slices.Clone(memory)
		label := fmt.Sprint(one)
		isNewList(t, "MirrorPattern "+label, func() []int { return impl.MirrorPattern(pattern) })
		isNewList(t, "CoverLengths "+label, func() []int { return impl.CoverLengths(pattern) })
		impl.IsMirrorPattern(pattern)
		impl.LeastCover(pattern)
		for n := range 25 {
			impl.CountCovers(pattern, n)
			covers := searchedCovers(textOfPattern(one), n)
			if n <= 16 {
				listsAreNew(t, fmt.Sprintf("CoversOf %s %d", label, n), covers, func() [][]int { return impl.CoversOf(pattern, n) })
			}
			for _, cover := range covers {
				keepsCover(t, pattern, n, cover)
			}
		}
		if !slices.Equal(memory, before) {
			t.Errorf("a function of covers changes %s", label)
		}
	}
}

// keepsCover asks for a cover, and for the same list with a fault.
func keepsCover(t *testing.T, pattern []int, n int, cover []int) {
	t.Helper()
	for _, list := range [][]int{cover, append(slices.Clone(cover), -7), append([]int{2 * n}, cover...)} {
		given, memory := listWithSpare(list)
		before := slices.Clone(memory)
		impl.IsCover(pattern, n, given)
		impl.CoverText(pattern, n, given)
		sameInts(t, fmt.Sprintf("%v after questions about %v and %d", list, pattern, n), memory, before)
	}
}

// TestCoversOfChangedMemory: a result keeps what it has if the pattern is changed afterwards, and the next call sees the change.
func TestCoversOfChangedMemory(t *testing.T) {
	for _, text := range []string{"x", "xx", "x.x", "xx.x", "xx..x", "xx...x", "xxx.x", full(13), "xxxxxx......x"} {
		pattern, memory := listWithSpare(patternOf(text))
		mirror, lengths, covers := impl.MirrorPattern(pattern), impl.CoverLengths(pattern), impl.CoversOf(pattern, 12)
		wantLengths := slices.DeleteFunc(numbersFrom1(25), func(n int) bool { return len(searchedCovers(text, n)) == 0 })
		clear(memory)
		label := fmt.Sprintf("%v, which was changed", patternOf(text))
		sameInts(t, "MirrorPattern of "+label, mirror, placesOf(backwards(text)))
		sameInts(t, "CoverLengths of "+label, lengths, wantLengths)
		sameLists(t, "CoversOf 12 of "+label, covers, searchedCovers(text, 12))
		left := -1
		if len(pattern) == 1 {
			left = 1
		}
		sameInt(t, "CountCovers 12 of "+label+", once more", impl.CountCovers(pattern, 12), left)
	}
}

package tests

import (
	"fmt"
	"slices"
	"strings"
	"testing"

	"loop.example/g03204/impl"
)

// The expected values of this file are made of texts, too: two texts are laid over each other, or beats are taken by their places.

func sharedPlaces(a string, b string) int {
	count := 0
	for p := range a {
		if a[p] == 'x' && b[p] == 'x' {
			count++
		}
	}
	return count
}

func textOverlaps(a string, b string) []int {
	var counts []int
	for _, turned := range turnedTexts(b) {
		counts = append(counts, sharedPlaces(a, turned))
	}
	return counts
}

func placesOf(text string) []int {
	var places []int
	for p := range text {
		if text[p] == 'x' {
			places = append(places, p)
		}
	}
	return places
}

// textVector goes through each pair of places once, and looks for its interval by walking.
func textVector(text string) []int {
	counts := make([]int, len(text)/2)
	places := placesOf(text)
	for i, p := range places {
		for _, q := range places[i+1:] {
			counts[walkedInterval(len(text), p, q)-1]++
		}
	}
	return counts
}

// walkedInterval walks from p to both sides, pulse by pulse and around the bar, until one of them comes to q.
func walkedInterval(size int, p int, q int) int {
	ahead, behind := p, p
	for walked := 0; ; walked++ {
		if ahead == q || behind == q {
			return walked
		}
		ahead = (ahead + 1) % size
		behind = (behind + size - 1) % size
	}
}

func zeros(n int) []int { return make([]int, n) }

func times(n int, k int) []int { return slices.Repeat([]int{n}, k) }

// bar has a text of dots with beats on some places.
func bar(size int, places ...int) string {
	text := []byte(strings.Repeat(".", size))
	for _, p := range places {
		text[p] = 'x'
	}
	return string(text)
}

func full(size int) string { return bar(size, numbersUpTo(size)...) }

func TestDifferencesOf(t *testing.T) {
	for _, r := range rhythmsForForms() {
		text := textOf(r)
		sameInts(t, fmt.Sprintf("DifferencesOf(%q)", text), impl.DifferencesOf(r), textOverlaps(text, text))
	}
	for text, want := range map[string][]int{
		"x..x..x.": {3, 0, 1, 2, 0, 2, 1, 0},
		".x..x..x": {3, 0, 1, 2, 0, 2, 1, 0},
		"xx.x....": {3, 1, 1, 1, 0, 1, 1, 1},
		"x.xx....": {3, 1, 1, 1, 0, 1, 1, 1},
		"xx.x...":  {3, 1, 1, 1, 1, 1, 1},
		"xx...":    {2, 1, 0, 0, 1},
		"x......x": {2, 1, 0, 0, 0, 0, 0, 1},
		// The beats are Size / 2 apart.
		"x...x...": {2, 0, 0, 0, 2, 0, 0, 0}, ".x..x.": {2, 0, 0, 2, 0, 0}, "x.x.": {2, 0, 2, 0}, "x.x.x.x.": {4, 0, 4, 0, 4, 0, 4, 0}, "xx..xx..": {4, 2, 0, 2, 4, 2, 0, 2},
		".": {0}, "x": {1}, "..": {0, 0}, "x.": {1, 0}, ".x": {1, 0}, "xx": {2, 2}, "...": {0, 0, 0}, ".x.": {1, 0, 0}, "x.x": {2, 1, 1}, "xxx": {3, 3, 3},
		bar(23):        zeros(23),
		bar(24):        zeros(24),
		full(23):       times(23, 23),
		full(24):       times(24, 24),
		bar(24, 23):    append([]int{1}, zeros(23)...),
		bar(24, 0, 12): slices.Concat([]int{2}, zeros(11), []int{2}, zeros(11)),
		bar(24, 0, 23): slices.Concat([]int{2, 1}, zeros(21), []int{1}),

		strings.Repeat("x.", 12):          slices.Repeat([]int{12, 0}, 12),
		strings.Repeat("x", 23) + ".":     append([]int{23}, times(22, 23)...),
		strings.Repeat("x.x.xx.x.x.x", 2): slices.Repeat([]int{14, 4, 10, 8, 6, 12, 4, 12, 6, 8, 10, 4}, 2),
	} {
		sameInts(t, fmt.Sprintf("DifferencesOf(%q)", text), impl.DifferencesOf(rhythmOfText(text)), want)
	}
}

func TestVectorOf(t *testing.T) {
	for _, r := range rhythmsForForms() {
		text := textOf(r)
		sameInts(t, fmt.Sprintf("VectorOf(%q)", text), impl.VectorOf(r), textVector(text))
	}
	for text, want := range map[string][]int{
		"x..x..x.": {0, 1, 2, 0},
		".x..x..x": {0, 1, 2, 0},
		"xx.x....": {1, 1, 1, 0},
		"xxx..x..": {2, 1, 2, 1},
		"xx.xx...": {2, 1, 2, 1},
		"xx.x...":  {1, 1, 1},
		"xx...":    {1, 0},
		"x......x": {1, 0, 0, 0},
		// The beats are Size / 2 apart: each such pair is counted once.
		"x...x...": {0, 0, 0, 1}, ".x..x.": {0, 0, 1}, "x.x.": {0, 1}, "x.x.x.x.": {0, 4, 0, 2}, "xx..xx..": {2, 0, 2, 2}, "xx": {1},
		// An odd Size has no such pair.
		"x..x...": {0, 0, 1}, "x.x..": {0, 1}, "x.x": {1}, "xxx": {3}, ".x.": {0}, "...": {0}, "xxxxx": {5, 5},
		// A Size of 1 has no intervals at all.
		".": nil, "x": nil,
		"..": {0}, "x.": {0}, ".x": {0},
		"x.x.xx.x.x.x": {2, 5, 4, 3, 6, 1},
		"x.x.x..x.x..": {0, 3, 2, 1, 4, 0},
		"x.x.x.x.x.x.": {0, 6, 0, 6, 0, 3},
		"xx..x.x.....": {1, 1, 1, 1, 1, 1},
		"xxxxxxxxxxxx": {12, 12, 12, 12, 12, 6},
		bar(23):        zeros(11),
		bar(24):        zeros(12),
		full(23):       times(23, 11),
		full(24):       append(times(24, 11), 12),
		bar(24, 23):    zeros(12),
		bar(24, 0, 12): append(zeros(11), 1),
		bar(24, 0, 23): append([]int{1}, zeros(11)...),

		strings.Repeat("x.", 12):          append(slices.Repeat([]int{0, 12}, 5), 0, 6),
		strings.Repeat("x.x.xx.x.x.x", 2): {4, 10, 8, 6, 12, 4, 12, 6, 8, 10, 4, 7},
	} {
		sameInts(t, fmt.Sprintf("VectorOf(%q)", text), impl.VectorOf(rhythmOfText(text)), want)
	}
}

// TestIntervalsOfAllFormsAreTheSame turns and mirrors rhythms by the functions of chapter 3.
func TestIntervalsOfAllFormsAreTheSame(t *testing.T) {
	for _, r := range rhythmsForForms() {
		mirrored, _ := impl.MirrorRhythm(r)
		for k := -r.Size; k <= r.Size; k += max(r.Size/3, 1) {
			for _, original := range []impl.Rhythm{r, mirrored} {
				turned, _ := impl.RotateRhythm(original, k)
				label := fmt.Sprintf("%v and %v", r, turned)
				sameInts(t, "DifferencesOf of "+label, impl.DifferencesOf(turned), impl.DifferencesOf(r))
				sameInts(t, "VectorOf of "+label, impl.VectorOf(turned), impl.VectorOf(r))
				isBool(t, "SameVector of "+label, impl.SameVector(r, turned), true)
				isBool(t, "AreTwins of "+label, impl.AreTwins(r, turned), false)
				isBool(t, "IsDeep of "+label, impl.IsDeep(turned), impl.IsDeep(r))
				isBool(t, "IsFlat of "+label, impl.IsFlat(turned), impl.IsFlat(r))
			}
		}
	}
}

// haveSameIntervals checks SameVector and AreTwins of two rhythms in both orders.
func haveSameIntervals(t *testing.T, a string, b string, same bool, twins bool) {
	t.Helper()
	for _, pair := range [][2]string{{a, b}, {b, a}} {
		first, second := rhythmOfText(pair[0]), rhythmOfText(pair[1])
		isBool(t, fmt.Sprintf("SameVector(%q, %q)", pair[0], pair[1]), impl.SameVector(first, second), same)
		isBool(t, fmt.Sprintf("AreTwins(%q, %q)", pair[0], pair[1]), impl.AreTwins(first, second), twins)
	}
}

func TestTwinsOfAllPairs(t *testing.T) {
	var texts []string
	for size := 1; size <= 5; size++ {
		for _, r := range allRhythmsOf(size) {
			texts = append(texts, textOf(r))
		}
	}
	for _, mask := range []int{0, 1, 2, 0b1010, 0b10111, 0b11011, 0b100111, 0b110011, 0b1011101, 0b11111111} {
		texts = append(texts, textOf(rhythmOfMask(8, mask)), textOf(rhythmOfMask(10, mask)), textOf(rhythmOfMask(12, mask)), textOf(rhythmOfMask(24, mask)))
	}
	for _, a := range texts {
		for _, b := range texts {
			same := len(a) == len(b) && slices.Equal(textVector(a), textVector(b))
			haveSameIntervals(t, a, b, same, same && !slices.Contains(formTexts(a), b))
		}
	}
}

func TestTwins(t *testing.T) {
	for _, c := range []struct {
		a     string
		b     string
		same  bool
		twins bool
	}{
		{"xxx..x..", "xx.xx...", true, true}, {"..x..xxx", "...xx.xx", true, true},
		{"xx..x.x.....", "xx.x...x....", true, true}, {"xx.xx.x...", "xxx.x..x..", true, true}, {"xxx.xx....", "xxxx..x...", true, true},
		{bar(13, 0, 1, 4, 6), bar(13, 0, 1, 3, 9), true, true}, {bar(16, 0, 1, 5, 8), bar(16, 0, 1, 4, 9), true, true}, {bar(24, 0, 2, 8, 12), bar(24, 0, 2, 6, 14), true, true},
		// The same vector, but forms of each other: rotations, or rotations of the mirror.
		{"x..x..x.", "x..x..x.", true, false}, {"x..x..x.", "x.x..x..", true, false}, {"xx.x....", "x.xx....", true, false}, {"xxx..x..", "xxx..x..", true, false},
		{"x", "x", true, false}, {".", ".", true, false}, {"x...", "..x.", true, false}, {full(24), full(24), true, false}, {bar(24), bar(24), true, false},
		// One beat has no interval, as no beats have none: these are no forms of each other.
		{".", "x", true, true}, {"..", ".x", true, true}, {"...", "x..", true, true}, {bar(24), bar(24, 23), true, true},
		// As many beats, but other intervals.
		{"x...x...", "x..x....", false, false}, {"xx.x....", "xxx.....", false, false}, {"xx..", "x.x.", false, false}, {bar(24, 0, 12), bar(24, 0, 11), false, false},
		// Different numbers of beats.
		{"xx.x....", "xx.xx...", false, false}, {"....", "xx..", false, false}, {"x...", "x.x.", false, false}, {full(24), strings.Repeat("x", 23) + ".", false, false},
		// Different Sizes, with the same numbers in VectorOf or in DifferencesOf.
		{"x.", "x..", false, false}, {"..", "...", false, false}, {"xx", "xx.", false, false}, {"x..x", "xx...", false, false}, {".", "..", false, false}, {"x", ".x", false, false},
		{bar(24), bar(23), false, false}, {bar(24, 0, 1), bar(23, 0, 1), false, false}, {bar(22, 0, 1), bar(23, 0, 1), false, false},
	} {
		haveSameIntervals(t, c.a, c.b, c.same, c.twins)
	}
}

// twinTexts looks through all texts of the length for those with the same number of beats and the same intervals that are the last of their own forms.
func twinTexts(text string, all []string) []string {
	var twins []string
	for _, other := range all {
		if len(placesOf(other)) != len(placesOf(text)) || !slices.Equal(textVector(other), textVector(text)) {
			continue
		}
		if forms := formTexts(other); other == slices.Max(forms) && !slices.Contains(forms, text) {
			twins = append(twins, other)
		}
	}
	slices.Sort(twins)
	slices.Reverse(twins)
	return twins
}

func textsOfSize(size int) []string { return textsOf(allRhythmsOf(size)) }

func TestTwinsOfShortRhythms(t *testing.T) {
	for size := 1; size <= 8; size++ {
		all := textsOfSize(size)
		for _, text := range all {
			sameList(t, fmt.Sprintf("TwinsOf(%q)", text), impl.TwinsOf(rhythmOfText(text)), twinTexts(text, all))
		}
	}
}

func TestTwinsOfLongerRhythms(t *testing.T) {
	random := newRandom()
	for size := 9; size <= 12; size++ {
		all := textsOfSize(size)
		for _, mask := range []int{0, 1, 1 << (size - 1), -1, 0b1011, 0b110011, 0b11011, random.IntN(1 << size), random.IntN(1 << size)} {
			r := rhythmOfMask(size, mask)
			sameList(t, fmt.Sprintf("TwinsOf(%q)", textOf(r)), impl.TwinsOf(r), twinTexts(textOf(r), all))
		}
	}
}

func TestTwinsOf(t *testing.T) {
	for text, want := range map[string][]string{
		"xxx..x..": {"xx.xx..."}, "xx.xx...": {"xxx..x.."},
		// Rotations and mirrors have the same twins; these are the least forms.
		"..xxx..x": {"xx.xx..."}, "x..xxx..": {"xx.xx..."}, "...xx.xx": {"xxx..x.."}, "x.xx...x": {"xxx..x.."},
		"xxxx..x...": {"xxx.xx...."}, "xxx.xx....": {"xxxx..x..."}, "xx.xx.x...": {"xxx.x..x.."}, "xxx..x.x..": {"xx.x.xx..."},
		"xx..x.x.....": {"xx.x...x...."}, "xx.x...x....": {"xx..x.x....."}, ".....x.x..xx": {"xx.x...x...."},
		// These have none.
		"x..x..x.": nil, "xx.x....": nil, "xxxx....": nil, "x.x.x.x.": nil, "x.x.xx.x.x.x": nil, "x.x.x.x.x.x.": nil,
		// One beat has the intervals of no beats, but twins have as many beats.
		".": nil, "x": nil, "..": nil, "x.": nil, "xx": nil, "...": nil, "x..": nil, "....": nil, "x...": nil, "............": nil, "x...........": nil, "xxxxxxxxxxxx": nil,
		// These have twins, but too many pulses.
		bar(13, 0, 1, 4, 6): nil, bar(13, 0, 1, 3, 9): nil, bar(16, 0, 1, 5, 8): nil, bar(24, 0, 2, 8, 12): nil, bar(24, 0, 2, 6, 14): nil, bar(13): nil, full(13): nil, bar(24): nil, full(24): nil,
	} {
		sameList(t, fmt.Sprintf("TwinsOf(%q)", text), impl.TwinsOf(rhythmOfText(text)), want)
	}
}

// TestTwelvePulses holds the numbers of least forms with twins against those that are known of twelve tones.
func TestTwelvePulses(t *testing.T) {
	counts := make([]int, 13)
	for _, text := range textsOfSize(12) {
		r := rhythmOfText(text)
		if text == slices.Max(formTexts(text)) && len(impl.TwinsOf(r)) > 0 {
			counts[len(r.Beats)]++
		}
	}
	sameInts(t, "the numbers of least forms of 12 pulses that have twins", counts, []int{0, 0, 0, 0, 2, 6, 30, 6, 2, 0, 0, 0, 0})
}

// TestListedTwinsAreTwins asks the functions that TwinsOf is defined by.
func TestListedTwinsAreTwins(t *testing.T) {
	for size := 1; size <= 10; size++ {
		for _, r := range allRhythmsOf(size) {
			for _, twin := range impl.TwinsOf(r) {
				if !impl.AreTwins(r, twin) || !impl.IsLeastRotation(twin) || impl.CountBeats(twin) != impl.CountBeats(r) {
					t.Errorf("TwinsOf(%q) has %q", textOf(r), textOf(twin))
				}
			}
		}
	}
}

func isDeepText(text string) bool {
	numbers := textVector(text)
	for i, n := range numbers {
		if n != 0 && slices.Contains(numbers[i+1:], n) {
			return false
		}
	}
	return true
}

func isFlatText(text string) bool {
	others := textOverlaps(text, text)[1:]
	return len(others) == 0 || slices.Min(others) == slices.Max(others)
}

func TestDeepAndFlat(t *testing.T) {
	for _, r := range rhythmsForForms() {
		text := textOf(r)
		isBool(t, fmt.Sprintf("IsDeep(%q)", text), impl.IsDeep(r), isDeepText(text))
		isBool(t, fmt.Sprintf("IsFlat(%q)", text), impl.IsFlat(r), isFlatText(text))
	}
}

func TestIsDeep(t *testing.T) {
	for text, want := range map[string]bool{
		"x.x.xx.x.x.x": true, "x.x.x..x.x..": true, "x.x.x.": true, ".x.x.x": true, "xxx..": true, "xxxx...": true, "x.x.x....": true, "x..x..x.": true, "x.x.x.x.": true,
		// The vectors of these have the same number twice.
		"xx.x....": false, "xxx..x..": false, "xx.xx...": false, "xx.x...": false, "xx..xx..": false, "xx..x.x.....": false, "xxx.xxx.": false,
		// Only the 0 is there several times.
		"....": true, "x...": true, "xx......": true, "x...x...": true, ".....": true, "x.....": true,
		// All beats: the vectors are 1; 3; 4 and 2; 5 and 5; 6, 6 and 3.
		"xx": true, "xxx": true, "xxxx": true, "xxxxx": false, "xxxxxx": false,
		".": true, "x": true, "..": true, "x.": true, "...": true, "x.x": true, "xx..": true, "x.xx": true,
		bar(24): true, bar(24, 23): true, bar(24, 0, 12): true, full(24): false, full(23): false, bar(24, 0, 1, 2, 3): true, bar(24, 0, 1, 3): false, bar(24, 0, 12, 1): false, bar(24, numbersUpTo(12)...): true, bar(23, numbersUpTo(12)...): true,
	} {
		isBool(t, fmt.Sprintf("IsDeep(%q)", text), impl.IsDeep(rhythmOfText(text)), want)
	}
}

func TestIsFlat(t *testing.T) {
	for text, want := range map[string]bool{
		"xx.x...": true, "...xx.x": true, "x.xx...": true, "xxx.x..": true, bar(13, 0, 1, 3, 9): true, bar(11, 1, 3, 4, 5, 9): true, bar(15, 0, 1, 2, 4, 5, 8, 10): true, bar(21, 3, 6, 7, 12, 14): true, bar(23, 1, 2, 3, 4, 6, 8, 9, 12, 13, 16, 18): true,
		// These lack one difference, or have one more often than the others.
		"xx.x....": false, "x..x..x.": false, "xxx....": false, "xx.....": false, "x.x.": false, "x...x...": false, "xx..": false, bar(13, 0, 1, 3, 8): false, bar(21, 3, 6, 7, 12, 13): false, bar(24, 0, 12): false, bar(24, 0, 1, 3): false,
		// All have all differences as often, or none.
		".": true, "x": true, "..": true, "x.": true, "xx": true, "...": true, "x..": true, "xx.": true, "xxx": true, "xx.x": true, "xxxxx.": true, "x.....": true, "......": true, "xxxxxx": true,
		bar(24): true, bar(24, 23): true, full(24): true, full(23): true, strings.Repeat("x", 23) + ".": true, strings.Repeat("x", 22) + "..": false,
	} {
		isBool(t, fmt.Sprintf("IsFlat(%q)", text), impl.IsFlat(rhythmOfText(text)), want)
	}
}

func otherText(text string) string {
	return strings.Map(func(c rune) rune { return 'x' + '.' - c }, text)
}

// laidOver checks CommonBeats and OverlapsOf of two texts of the same length.
func laidOver(t *testing.T, a string, b string) {
	t.Helper()
	first, second := rhythmOfText(a), rhythmOfText(b)
	sameInt(t, fmt.Sprintf("CommonBeats(%q, %q)", a, b), impl.CommonBeats(first, second), sharedPlaces(a, b))
	sameInts(t, fmt.Sprintf("OverlapsOf(%q, %q)", a, b), impl.OverlapsOf(first, second), textOverlaps(a, b))
}

func TestOverlapsOfAllPairs(t *testing.T) {
	for size := 1; size <= 5; size++ {
		for _, a := range textsOfSize(size) {
			for _, b := range textsOfSize(size) {
				laidOver(t, a, b)
			}
		}
	}
}

func TestOverlapsOfLongRhythms(t *testing.T) {
	random := newRandom()
	for _, r := range rhythmsForForms() {
		text := textOf(r)
		for _, other := range []string{text, otherText(text), mirroredText(text), bar(r.Size), full(r.Size), bar(r.Size, r.Size-1), textOf(randomRhythm(random, r.Size))} {
			laidOver(t, text, other)
			laidOver(t, other, text)
		}
	}
}

func TestOverlaps(t *testing.T) {
	for _, c := range []struct {
		a    string
		b    string
		want []int
	}{
		{"x..x..x.", "x.x..x..", []int{1, 2, 0, 2, 1, 0, 3, 0}},
		{"x.x..x..", "x..x..x.", []int{1, 0, 3, 0, 1, 2, 0, 2}},
		{"xx......", "x.......", []int{1, 1, 0, 0, 0, 0, 0, 0}},
		{"x.......", "xx......", []int{1, 0, 0, 0, 0, 0, 0, 1}},
		// A rhythm and itself; its other pulses; no beats; all beats.
		{"x..x..x.", "x..x..x.", []int{3, 0, 1, 2, 0, 2, 1, 0}}, {"x..x..x.", ".xx.xx.x", []int{0, 3, 2, 1, 3, 1, 2, 3}}, {"x..x..x.", "........", zeros(8)}, {"........", "x..x..x.", zeros(8)}, {"x..x..x.", "xxxxxxxx", times(3, 8)}, {"xxxxxxxx", "x..x..x.", times(3, 8)}, {"........", "........", zeros(8)},
		{"x", "x", []int{1}}, {"x", ".", []int{0}}, {".", "x", []int{0}}, {".", ".", []int{0}}, {"x.", "x.", []int{1, 0}}, {"x.", ".x", []int{0, 1}}, {"xx", ".x", []int{1, 1}}, {"x..", ".x.", []int{0, 0, 1}}, {".x.", "x..", []int{0, 1, 0}}, {"x.x", "xx.", []int{1, 1, 2}},
		{full(24), full(24), times(24, 24)}, {bar(24), full(24), zeros(24)}, {bar(24, 23), bar(24, 0), append(zeros(23), 1)}, {bar(24, 0), bar(24, 23), append([]int{0, 1}, zeros(22)...)}, {bar(24, 0, 12), bar(24, 0, 12), slices.Concat([]int{2}, zeros(11), []int{2}, zeros(11))},
	} {
		a, b := rhythmOfText(c.a), rhythmOfText(c.b)
		sameInt(t, fmt.Sprintf("CommonBeats(%q, %q)", c.a, c.b), impl.CommonBeats(a, b), c.want[0])
		sameInts(t, fmt.Sprintf("OverlapsOf(%q, %q)", c.a, c.b), impl.OverlapsOf(a, b), c.want)
	}
}

func TestIntervalBetweenAllPulses(t *testing.T) {
	for _, r := range rhythmsForForms() {
		for p := range r.Size {
			for q := range r.Size {
				want := -1
				if slices.Contains(r.Beats, p) && slices.Contains(r.Beats, q) {
					want = walkedInterval(r.Size, p, q)
				}
				sameInt(t, fmt.Sprintf("IntervalBetween(%v, %d, %d)", r, p, q), impl.IntervalBetween(r, p, q), want)
			}
		}
	}
}

func TestIntervalBetween(t *testing.T) {
	for _, c := range []struct {
		text string
		p    int
		q    int
		want int
	}{
		{"x..x..x.", 0, 3, 3}, {"x..x..x.", 3, 0, 3}, {"x..x..x.", 0, 6, 2}, {"x..x..x.", 6, 0, 2}, {"x..x..x.", 3, 6, 3},
		// Neighbours around the end of the bar.
		{"x......x", 0, 7, 1}, {"x......x", 7, 0, 1}, {"xx", 0, 1, 1}, {"xx", 1, 0, 1}, {"x.x", 0, 2, 1}, {full(24), 23, 0, 1}, {full(24), 0, 23, 1}, {full(24), 1, 23, 2},
		// Size / 2 apart, and nearly so.
		{"x...x...", 0, 4, 4}, {"x...x...", 4, 0, 4}, {".x..x.", 1, 4, 3}, {full(24), 0, 12, 12}, {full(24), 23, 11, 12}, {full(24), 0, 11, 11}, {full(24), 0, 13, 11}, {full(23), 0, 11, 11}, {full(23), 0, 12, 11}, {full(5), 4, 1, 2},
		// A beat and itself.
		{"x..x..x.", 0, 0, 0}, {"x..x..x.", 6, 6, 0}, {"x", 0, 0, 0}, {".x", 1, 1, 0}, {full(24), 23, 23, 0},
		// Pulses without a beat, and numbers that are no pulses, though their remainders are beats.
		{"x..x..x.", 0, 1, -1}, {"x..x..x.", 1, 0, -1}, {"x..x..x.", 1, 1, -1}, {"x..x..x.", 2, 7, -1}, {".", 0, 0, -1}, {"x.", 1, 1, -1}, {bar(24), 0, 12, -1}, {"x", 0, 1, -1}, {"x", 1, 1, -1}, {"x", 0, -1, -1},
		{"x..x..x.", 0, -2, -1}, {"x..x..x.", -2, 0, -1}, {"x..x..x.", -8, -8, -1}, {"x..x..x.", 0, 8, -1}, {"x..x..x.", 8, 0, -1}, {"x..x..x.", 11, 3, -1}, {"x..x..x.", 3, 14, -1}, {full(24), 0, 24, -1}, {full(24), -1, 23, -1}, {full(24), 24, 24, -1},
	} {
		sameInt(t, fmt.Sprintf("IntervalBetween(%q, %d, %d)", c.text, c.p, c.q), impl.IntervalBetween(rhythmOfText(c.text), c.p, c.q), c.want)
	}
	for _, far := range extremes() {
		for _, text := range []string{"x", "xx", "x..x..x.", full(23), full(24)} {
			r := rhythmOfText(text)
			for _, pair := range [][2]int{{0, far}, {far, 0}, {far, far}} {
				sameInt(t, fmt.Sprintf("IntervalBetween(%q, %d, %d)", text, pair[0], pair[1]), impl.IntervalBetween(r, pair[0], pair[1]), -1)
			}
		}
	}
}

// TestIntervalsOfInvalidRhythms has the functions of one rhythm; those of two are below.
func TestIntervalsOfInvalidRhythms(t *testing.T) {
	for _, bad := range invalidRhythms() {
		r, memory := withSpare(bad)
		before := slices.Clone(memory)
		name := shortName(bad)
		sameInts(t, "DifferencesOf "+name, impl.DifferencesOf(r), nil)
		sameInts(t, "VectorOf "+name, impl.VectorOf(r), nil)
		sameList(t, "TwinsOf "+name, impl.TwinsOf(r), nil)
		isBool(t, "IsDeep "+name, impl.IsDeep(r), false)
		isBool(t, "IsFlat "+name, impl.IsFlat(r), false)
		numbers := append(extremes(), -8, -2, -1, 0, 1, 3, 6, 8, 24)
		for _, p := range append(numbers, bad.Beats[:min(len(bad.Beats), 4)]...) {
			sameInt(t, fmt.Sprintf("IntervalBetween %d and 0 of %s", p, name), impl.IntervalBetween(r, p, 0), -1)
			sameInt(t, fmt.Sprintf("IntervalBetween 0 and %d of %s", p, name), impl.IntervalBetween(r, 0, p), -1)
			sameInt(t, fmt.Sprintf("IntervalBetween %d and itself of %s", p, name), impl.IntervalBetween(r, p, p), -1)
		}
		if !slices.Equal(memory, before) {
			t.Errorf("a function of intervals changes %s", name)
		}
	}
}

func haveNothingInCommon(t *testing.T, a impl.Rhythm, b impl.Rhythm) {
	t.Helper()
	label := shortName(a) + " and " + shortName(b)
	isBool(t, "SameVector of "+label, impl.SameVector(a, b), false)
	isBool(t, "AreTwins of "+label, impl.AreTwins(a, b), false)
	sameInt(t, "CommonBeats of "+label, impl.CommonBeats(a, b), -1)
	sameInts(t, "OverlapsOf "+label, impl.OverlapsOf(a, b), nil)
}

func TestInvalidRhythmsHaveNothingInCommon(t *testing.T) {
	for _, bad := range invalidRhythms() {
		for _, good := range []impl.Rhythm{rhythmOfMask(1, 0), rhythmOfMask(1, 1), rhythmOfMask(8, 0), rhythmOfMask(8, 1), rhythmOfMask(8, 73), rhythmOfMask(24, 0), rhythmOfMask(24, -1)} {
			haveNothingInCommon(t, bad, good)
			haveNothingInCommon(t, good, bad)
		}
		for _, other := range invalidRhythms() {
			haveNothingInCommon(t, bad, other)
		}
		haveNothingInCommon(t, bad, bad)
	}
}

// TestBeatsOutOfTheBarHaveNoIntervals has rhythms that are not valid, with the same remainders as those of a valid one.
func TestBeatsOutOfTheBarHaveNoIntervals(t *testing.T) {
	good := rhythmOfText("x..x..x.")
	for _, beats := range [][]int{{-2, 0, 3}, {3, 6, 8}, {0, 3, 14}, {0, 3, 6, 8}, {0, 6, 3}, {0, 3, 3, 6}, {-8, 3, 6}} {
		bad := impl.Rhythm{Size: 8, Beats: beats}
		sameInts(t, fmt.Sprintf("DifferencesOf(%v)", bad), impl.DifferencesOf(bad), nil)
		sameInts(t, fmt.Sprintf("VectorOf(%v)", bad), impl.VectorOf(bad), nil)
		haveNothingInCommon(t, bad, good)
		haveNothingInCommon(t, good, bad)
	}
}

func TestRhythmsOfDifferentSizesHaveNothingInCommon(t *testing.T) {
	for a := 1; a <= 24; a++ {
		for b := 1; b <= 24; b++ {
			if a != b {
				haveNothingInCommon(t, rhythmOfMask(a, 0), rhythmOfMask(b, 0))
				haveNothingInCommon(t, rhythmOfMask(a, 1), rhythmOfMask(b, 1))
				haveNothingInCommon(t, rhythmOfMask(a, -1), rhythmOfMask(b, -1))
			}
		}
	}
}

// TestIntervalsWithoutBeats holds a nil list of beats against an empty one, and against one with memory behind it.
func TestIntervalsWithoutBeats(t *testing.T) {
	for size := 1; size <= 24; size++ {
		list := []impl.Rhythm{{Size: size}, {Size: size, Beats: []int{}}, {Size: size, Beats: []int{0, 0, 7}[:0]}}
		for _, a := range list {
			sameInts(t, fmt.Sprintf("DifferencesOf without beats and Size %d", size), impl.DifferencesOf(a), zeros(size))
			sameInts(t, fmt.Sprintf("VectorOf without beats and Size %d", size), impl.VectorOf(a), zeros(size/2))
			sameList(t, fmt.Sprintf("TwinsOf without beats and Size %d", size), impl.TwinsOf(a), nil)
			isBool(t, fmt.Sprintf("IsDeep without beats and Size %d", size), impl.IsDeep(a), true)
			isBool(t, fmt.Sprintf("IsFlat without beats and Size %d", size), impl.IsFlat(a), true)
			sameInt(t, fmt.Sprintf("IntervalBetween without beats and Size %d", size), impl.IntervalBetween(a, 0, 0), -1)
			for _, b := range list {
				isBool(t, fmt.Sprintf("SameVector without beats and Size %d", size), impl.SameVector(a, b), true)
				isBool(t, fmt.Sprintf("AreTwins without beats and Size %d", size), impl.AreTwins(a, b), false)
				sameInt(t, fmt.Sprintf("CommonBeats without beats and Size %d", size), impl.CommonBeats(a, b), 0)
				sameInts(t, fmt.Sprintf("OverlapsOf without beats and Size %d", size), impl.OverlapsOf(a, b), zeros(size))
			}
		}
	}
}

func textsWithIntervals() []string {
	return append(textsForMemory(), "xxx..x..", "xx.xx...", "xx.x...", "x.x.xx.x.x.x", "xx..x.x.....", bar(24, 0, 2, 8, 12))
}

// intervalLists are all the functions of chapter 6 that return a list of numbers.
func intervalLists() map[string]func(impl.Rhythm) []int {
	return map[string]func(impl.Rhythm) []int{
		"DifferencesOf":              impl.DifferencesOf,
		"VectorOf":                   impl.VectorOf,
		"OverlapsOf with itself":     func(r impl.Rhythm) []int { return impl.OverlapsOf(r, r) },
		"OverlapsOf with all pulses": func(r impl.Rhythm) []int { return impl.OverlapsOf(r, rhythmOfMask(r.Size, -1)) },
		"OverlapsOf of all pulses":   func(r impl.Rhythm) []int { return impl.OverlapsOf(rhythmOfMask(r.Size, -1), r) },
	}
}

func TestReturnedIntervalsAreNew(t *testing.T) {
	for _, text := range textsWithIntervals() {
		for name, listed := range intervalLists() {
			r, memory := withSpare(rhythmOfText(text))
			before := slices.Clone(memory)
			first := listed(r)
			kept := slices.Clone(first)
			spoil(impl.Rhythm{Beats: listed(r)})
			sameInts(t, fmt.Sprintf("the beats of %q after %s", text, name), memory, before)
			sameInts(t, fmt.Sprintf("%s of %q after another result was changed", name, text), first, kept)
			sameInts(t, fmt.Sprintf("%s of %q once more", name, text), listed(r), kept)
		}
	}
}

// TestReturnedTwinsAreNew overwrites each rhythm of a list; all the others must keep their beats.
func TestReturnedTwinsAreNew(t *testing.T) {
	for _, text := range textsWithIntervals() {
		r, memory := withSpare(rhythmOfText(text))
		before := slices.Clone(memory)
		kept := impl.TwinsOf(r)
		want := textsOf(kept)
		for i := range want {
			list := impl.TwinsOf(r)
			spoil(list[i])
			sameList(t, fmt.Sprintf("TwinsOf(%q) but the one with the index %d, which was changed", text, i), slices.Concat(list[:i], list[i+1:]), slices.Concat(want[:i], want[i+1:]))
			clear(list[:cap(list)])
		}
		sameInts(t, fmt.Sprintf("the beats of %q after TwinsOf", text), memory, before)
		sameList(t, fmt.Sprintf("TwinsOf(%q) after other results were changed", text), kept, want)
		sameList(t, fmt.Sprintf("TwinsOf(%q) once more", text), impl.TwinsOf(r), want)
	}
}

func TestAskingForIntervalsKeepsRhythms(t *testing.T) {
	for _, text := range textsWithIntervals() {
		for _, other := range textsWithIntervals() {
			a, memoryA := withSpare(rhythmOfText(text))
			b, memoryB := withSpare(rhythmOfText(other))
			beforeA, beforeB := slices.Clone(memoryA), slices.Clone(memoryB)
			impl.DifferencesOf(a)
			impl.VectorOf(a)
			impl.SameVector(a, b)
			impl.AreTwins(a, b)
			impl.IsDeep(a)
			impl.IsFlat(a)
			impl.CommonBeats(a, b)
			impl.OverlapsOf(a, b)
			impl.IntervalBetween(a, 0, a.Size-1)
			if !slices.Equal(memoryA, beforeA) || !slices.Equal(memoryB, beforeB) {
				t.Errorf("questions about intervals change the beats of %q to %v or of %q to %v", text, memoryA, other, memoryB)
			}
		}
	}
}

// TestIntervalsAreTheSameAgain asks often enough that an answer that depended on the order of a map would change.
func TestIntervalsAreTheSameAgain(t *testing.T) {
	for _, text := range textsWithIntervals() {
		r := rhythmOfText(text)
		answer := func() string {
			return fmt.Sprint(impl.DifferencesOf(r), impl.VectorOf(r), textsOf(impl.TwinsOf(r)), impl.IsDeep(r), impl.IsFlat(r), impl.OverlapsOf(r, r), impl.SameVector(r, r), impl.AreTwins(r, r))
		}
		first := answer()
		for range 20 {
			if again := answer(); again != first {
				t.Errorf("the intervals of %q are %s, and were %s", text, again, first)
			}
		}
	}
}

package tests

import (
	"fmt"
	"slices"
	"strings"
	"testing"

	"loop.example/g03204/impl"
)

// The expected values of this file are made of texts and of walked steps, as in the files of the chapters before.

// dividedText has a beat on the last pulse p of which k times p is at most i * n + m, for each i: that is the quotient rounded down.
func dividedText(k int, n int, m int) string {
	var places []int
	for i := range k {
		p := 0
		for (p+1)*k <= i*n+m {
			p++
		}
		places = append(places, p)
	}
	return bar(n, places...)
}

func evenText(k int, n int) string { return dividedText(k, n, 0) }

// groupedText keeps all the copies in two lists and takes one pair after the other.
func groupedText(k int, n int) string {
	first := slices.Repeat([]string{"x"}, k)
	last := slices.Repeat([]string{"."}, n-k)
	for len(first) > 0 && len(last) > 1 {
		var pairs []string
		for len(first) > 0 && len(last) > 0 {
			pairs = append(pairs, first[0]+last[0])
			first, last = first[1:], last[1:]
		}
		first, last = pairs, append(first, last...)
	}
	return strings.Join(append(first, last...), "")
}

// beatsAndSizes goes through all numbers of beats and pulses for which there is a rhythm.
func beatsAndSizes(yield func(k int, n int) bool) {
	for n := 1; n <= 24; n++ {
		for k := range n + 1 {
			if !yield(k, n) {
				return
			}
		}
	}
}

// noBeatsAndSizes are numbers of beats and pulses for which there is no rhythm.
func noBeatsAndSizes() [][2]int {
	pairs := [][2]int{{0, 0}, {1, 0}, {0, -1}, {-1, -1}, {1, -1}, {-1, 0}, {0, 25}, {1, 25}, {3, 25}, {24, 25}, {25, 25}, {26, 25}, {12, 26}, {3, 1000}, {1000, 1000}, {-8, -8}, {3, -8}, {-3, 8}}
	for n := 1; n <= 24; n++ {
		pairs = append(pairs, [2]int{-1, n}, [2]int{-n, n}, [2]int{n + 1, n}, [2]int{n + 24, n}, [2]int{2 * n, n})
	}
	for _, far := range extremes() {
		for _, near := range []int{-1, 0, 1, 3, 8, 24, 25} {
			pairs = append(pairs, [2]int{near, far}, [2]int{far, near})
		}
		for _, other := range extremes() {
			pairs = append(pairs, [2]int{far, other})
		}
	}
	return pairs
}

func TestEvenRhythm(t *testing.T) {
	for k, n := range beatsAndSizes {
		got, ok := impl.EvenRhythm(k, n)
		isRhythm(t, fmt.Sprintf("EvenRhythm(%d, %d)", k, n), got, ok, rhythmOfText(evenText(k, n)))
	}
	for _, c := range []struct {
		k    int
		n    int
		want string
	}{
		{0, 1, "."}, {1, 1, "x"}, {0, 2, ".."}, {1, 2, "x."}, {2, 2, "xx"}, {0, 3, "..."}, {1, 3, "x.."}, {2, 3, "xx."}, {3, 3, "xxx"},
		// k divides n.
		{2, 8, "x...x..."}, {4, 8, "x.x.x.x."}, {3, 12, "x...x...x..."}, {6, 12, "x.x.x.x.x.x."}, {1, 8, "x......."}, {8, 8, "xxxxxxxx"},
		// k and n have no common divisor.
		{3, 8, "x.x..x.."}, {5, 8, "xx.xx.x."}, {7, 8, "xxxxxxx."}, {3, 7, "x.x.x.."}, {2, 5, "x.x.."}, {4, 7, "xx.x.x."}, {5, 12, "x.x.x..x.x.."}, {7, 12, "xx.x.xx.x.x."}, {4, 9, "x.x.x.x.."}, {5, 16, "x..x..x..x..x..."},
		// k and n have a common divisor, but k does not divide n.
		{6, 8, "xxx.xxx."}, {4, 6, "xx.xx."}, {4, 10, "x.x..x.x.."}, {6, 9, "xx.xx.xx."}, {8, 12, "xx.xx.xx.xx."}, {9, 12, "xxx.xxx.xxx."}, {6, 16, "x.x..x..x.x..x.."},
		{0, 24, bar(24)}, {1, 24, bar(24, 0)}, {2, 24, bar(24, 0, 12)}, {5, 24, bar(24, 0, 4, 9, 14, 19)}, {7, 24, bar(24, 0, 3, 6, 10, 13, 17, 20)}, {16, 24, strings.Repeat("xx.", 8)}, {22, 24, strings.Repeat("xxxxxxxxxxx.", 2)}, {23, 24, full(23) + "."}, {24, 24, full(24)}, {23, 23, full(23)}, {22, 23, full(22) + "."},
	} {
		got, ok := impl.EvenRhythm(c.k, c.n)
		isRhythm(t, fmt.Sprintf("EvenRhythm(%d, %d)", c.k, c.n), got, ok, rhythmOfText(c.want))
	}
}

func TestShiftedEvenByAllPulses(t *testing.T) {
	for k, n := range beatsAndSizes {
		for m := -1; m <= n+1; m++ {
			got, ok := impl.ShiftedEven(k, n, m)
			label := fmt.Sprintf("ShiftedEven(%d, %d, %d)", k, n, m)
			if m < 0 || m >= n || k == 0 && m > 0 {
				isNoRhythm(t, label, got, ok)
			} else {
				isRhythm(t, label, got, ok, rhythmOfText(dividedText(k, n, m)))
			}
		}
	}
}

func TestShiftedEven(t *testing.T) {
	for _, c := range []struct {
		k    int
		n    int
		m    int
		want string
	}{
		{3, 8, 0, "x.x..x.."}, {3, 8, 1, "x..x.x.."}, {3, 8, 2, "x..x..x."}, {3, 8, 3, ".x.x..x."}, {3, 8, 4, ".x..x.x."}, {3, 8, 5, ".x..x..x"}, {3, 8, 6, "..x.x..x"}, {3, 8, 7, "..x..x.x"}, {3, 8, 8, ""}, {3, 8, -1, ""}, {3, 8, 9, ""},
		// The beats of these move only after k steps of m.
		{4, 8, 0, "x.x.x.x."}, {4, 8, 3, "x.x.x.x."}, {4, 8, 4, ".x.x.x.x"}, {4, 8, 7, ".x.x.x.x"}, {1, 8, 7, ".......x"}, {8, 8, 7, "xxxxxxxx"}, {2, 3, 0, "xx."}, {2, 3, 1, "x.x"}, {2, 3, 2, ".xx"}, {2, 3, 3, ""},
		{5, 12, 11, "..x.x..x.x.x"}, {7, 12, 5, "x.x.xx.x.x.x"}, {1, 1, 0, "x"}, {1, 1, 1, ""}, {1, 2, 1, ".x"}, {2, 2, 1, "xx"}, {2, 2, 2, ""}, {24, 24, 23, full(24)}, {1, 24, 23, bar(24, 23)}, {23, 24, 23, "." + full(23)}, {24, 24, 24, ""}, {2, 24, 23, bar(24, 11, 23)},
		// Without beats, only m of 0 has a rhythm.
		{0, 1, 0, "."}, {0, 1, 1, ""}, {0, 8, 0, "........"}, {0, 8, 1, ""}, {0, 8, 7, ""}, {0, 8, 8, ""}, {0, 8, -1, ""}, {0, 24, 0, bar(24)}, {0, 24, 23, ""},
	} {
		got, ok := impl.ShiftedEven(c.k, c.n, c.m)
		if textOf(got) != c.want || ok != (c.want != "") {
			t.Errorf("ShiftedEven(%d, %d, %d) = %v, %t, want %q", c.k, c.n, c.m, got, ok, c.want)
		}
	}
	for k, n := range beatsAndSizes {
		for _, m := range append(extremes(), -1000, -n, -2, n, n+1, 2*n, 1000) {
			got, ok := impl.ShiftedEven(k, n, m)
			isNoRhythm(t, fmt.Sprintf("ShiftedEven(%d, %d, %d)", k, n, m), got, ok)
		}
	}
}

func TestGroupedEven(t *testing.T) {
	for k, n := range beatsAndSizes {
		got, ok := impl.GroupedEven(k, n)
		isRhythm(t, fmt.Sprintf("GroupedEven(%d, %d)", k, n), got, ok, rhythmOfText(groupedText(k, n)))
	}
	for _, c := range []struct {
		k    int
		n    int
		want string
	}{
		// No text is joined: there is no beat, or there is one pulse without a beat, or none.
		{0, 1, "."}, {0, 2, ".."}, {0, 8, "........"}, {1, 1, "x"}, {2, 2, "xx"}, {1, 2, "x."}, {2, 3, "xx."}, {3, 4, "xxx."}, {7, 8, "xxxxxxx."}, {8, 8, "xxxxxxxx"}, {0, 24, bar(24)}, {23, 24, full(23) + "."}, {24, 24, full(24)},
		// One round joins texts.
		{1, 3, "x.."}, {2, 4, "x.x."}, {4, 8, "x.x.x.x."}, {12, 24, strings.Repeat("x.", 12)}, {2, 5, "x.x.."}, {3, 7, "x.x.x.."}, {3, 5, "x.x.x"}, {4, 9, "x.x.x.x.."}, {11, 23, strings.Repeat("x.", 11) + "."},
		// Several rounds join texts: dots are left, beats are left, or both in turn.
		{3, 8, "x..x..x."}, {1, 8, "x......."}, {2, 8, "x...x..."}, {2, 7, "x..x..."}, {3, 11, "x...x...x.."}, {5, 8, "x.xx.xx."}, {6, 8, "x.xxx.xx"}, {4, 6, "x.xx.x"}, {4, 7, "x.x.x.x"}, {5, 9, "x.x.x.x.x"}, {5, 7, "x.xx.xx"}, {5, 12, "x..x.x..x.x."}, {7, 12, "x.xx.x.xx.x."}, {5, 13, "x..x.x..x.x.."}, {4, 10, "x..x.x..x."}, {6, 9, "x.xx.xx.x"},
		{7, 16, "x..x.x.x..x.x.x."}, {9, 16, "x.xx.x.x.xx.x.x."}, {5, 16, "x..x..x..x..x..."}, {11, 24, "x..x.x.x.x.x..x.x.x.x.x."}, {13, 24, "x.xx.x.x.x.x.xx.x.x.x.x."}, {1, 24, bar(24, 0)}, {2, 24, bar(24, 0, 12)}, {22, 24, strings.Repeat("x.xxxxxxxxxx", 2)},
	} {
		got, ok := impl.GroupedEven(c.k, c.n)
		isRhythm(t, fmt.Sprintf("GroupedEven(%d, %d)", c.k, c.n), got, ok, rhythmOfText(c.want))
	}
}

// TestEvenRhythmsAreRotations asks the functions of chapter 5.
func TestEvenRhythmsAreRotations(t *testing.T) {
	for k, n := range beatsAndSizes {
		even, _ := impl.EvenRhythm(k, n)
		grouped, ok := impl.GroupedEven(k, n)
		if !ok || !impl.AreRotations(even, grouped) {
			t.Errorf("GroupedEven(%d, %d) = %q, no rotation of %q", k, n, textOf(grouped), textOf(even))
		}
		for m := range n {
			if shifted, ok := impl.ShiftedEven(k, n, m); ok && !impl.AreRotations(even, shifted) {
				t.Errorf("ShiftedEven(%d, %d, %d) = %q, no rotation of %q", k, n, m, textOf(shifted), textOf(even))
			}
		}
	}
}

// unevenFrom has the least number of steps whose walked spans differ by more than 1; 0 if there is none, so that the rhythm is even.
func unevenFrom(r impl.Rhythm) int {
	for k := 1; k < len(r.Beats); k++ {
		if spans := walkedSpans(r, k); slices.Max(spans)-slices.Min(spans) > 1 {
			return k
		}
	}
	return 0
}

func TestIsEvenOfManyRhythms(t *testing.T) {
	for _, r := range rhythmsForForms() {
		isBool(t, fmt.Sprintf("IsEven(%q)", textOf(r)), impl.IsEven(r), unevenFrom(r) == 0)
	}
	for k, n := range beatsAndSizes {
		for _, text := range formTexts(evenText(k, n)) {
			isBool(t, fmt.Sprintf("IsEven(%q)", text), impl.IsEven(rhythmOfText(text)), true)
		}
	}
}

func TestIsEven(t *testing.T) {
	for text, from := range map[string]int{
		"x..x..x.": 0, "x.x..x..": 0, "..x..x.x": 0, "x.x.x.x.": 0, ".x.x": 0, "x...x...": 0, ".x...x..": 0, "xx.xx.x.": 0, "xxx.xxx.": 0, "x.x..x.x..": 0, "x.x.x..x.x..": 0, "x.x.xx.x.x.x": 0, "xx.xx.": 0,
		// The steps differ by more than 1.
		"xx......": 1, "xx..": 1, "x..x....": 1, "x.x...": 1, "x.xx....": 1, "xxx..": 1, "xx.x..": 1, "x.x.x.x...": 1, bar(24, 0, 5, 11, 18): 1, bar(24, 0, 4, 8, 12, 18): 1,
		// The steps differ by at most 1, but the spans of two steps differ by 2.
		"xxx.x.": 2, "x.xxx.": 2, "xx.x.x": 2, "x.x.xx": 2, "x..x..x.x.": 2, "x.x.x..x..": 2, "x...x...x..x..": 2, "xxx.x.xxx.x.": 2, bar(22, 0, 5, 10, 16): 2,
		// Only the spans of more steps than two differ by 2.
		"xxxx.xx.": 3, "x.xxxx.x": 3, "xx.xx.xx.x.x.": 3, "xx.xx.x.x.xx.xx.x.x.": 3, "xxxxx.xxx.": 4, "xxxxxx.xxxx.": 5, "xxxxxxx.xxxxx.": 6, "xxxxxxxx.xxxxxx.": 7, full(9) + "." + full(7) + ".": 8, full(12) + "." + full(10) + ".": 11,
		"x": 0, ".": 0, "..": 0, "x.": 0, ".x": 0, "xx": 0, "...": 0, ".x.": 0, "x.x": 0, "xxx": 0, "....": 0, "..x.": 0,
		bar(23): 0, bar(24): 0, bar(24, 23): 0, full(23): 0, full(24): 0, full(23) + ".": 0, full(22) + "..": 1,
		// Two beats are Size / 2 apart, or nearly so.
		bar(24, 0, 12): 0, bar(24, 11, 23): 0, bar(24, 0, 11): 1, bar(24, 0, 13): 1, bar(23, 0, 11): 0, bar(23, 0, 12): 0, bar(23, 0, 10): 1, bar(23, 0, 13): 1,
	} {
		r := rhythmOfText(text)
		sameInt(t, fmt.Sprintf("the steps from which %q is uneven", text), unevenFrom(r), from)
		isBool(t, fmt.Sprintf("IsEven(%q)", text), impl.IsEven(r), from == 0)
	}
}

// textSpread goes through each pair of places once.
func textSpread(text string) int {
	spread := 0
	places := placesOf(text)
	for i, p := range places {
		for _, q := range places[i+1:] {
			d := walkedInterval(len(text), p, q)
			spread += d * (len(text) - d)
		}
	}
	return spread
}

func TestSpreadOfManyRhythms(t *testing.T) {
	for _, r := range rhythmsForForms() {
		sameInt(t, fmt.Sprintf("SpreadOf(%q)", textOf(r)), impl.SpreadOf(r), textSpread(textOf(r)))
	}
}

func TestSpreadOf(t *testing.T) {
	for text, want := range map[string]int{
		"x..x..x.": 42, ".x..x..x": 42, "x.x..x..": 42, "xxx.....": 26, "xx......": 7, "x......x": 7, "xx.x....": 34, "x.x.x.x.": 80, "xxxx....": 60,
		// No beats, one beat, and a beat on every pulse.
		".": 0, "x": 0, "..": 0, ".x": 0, "x.......": 0, ".......x": 0, "........": 0, bar(24): 0, bar(24, 23): 0, "xx": 1, "xxx": 6, "xxxx": 20, "xxxxxxxx": 336, full(23): 23 * 2024 / 2, full(24): 24 * 2300 / 2,
		// Two beats are Size / 2 apart, or nearly so.
		"x.x.": 4, "x...x...": 16, "...x...x": 16, "x..x....": 15, bar(24, 0, 12): 144, bar(24, 11, 23): 144, bar(24, 0, 11): 143, bar(24, 0, 13): 143, bar(24, 0, 23): 23, bar(23, 0, 11): 132, bar(23, 0, 12): 132,
	} {
		sameInt(t, fmt.Sprintf("SpreadOf(%q)", text), impl.SpreadOf(rhythmOfText(text)), want)
	}
}

func TestMostSpread(t *testing.T) {
	for k, n := range beatsAndSizes {
		sameInt(t, fmt.Sprintf("MostSpread(%d, %d)", k, n), impl.MostSpread(k, n), textSpread(evenText(k, n)))
	}
	for _, c := range []struct {
		k    int
		n    int
		want int
	}{
		{3, 8, 42}, {4, 8, 80}, {2, 8, 16}, {2, 7, 12}, {0, 8, 0}, {1, 8, 0}, {7, 8, 252}, {8, 8, 336}, {0, 1, 0}, {1, 1, 0}, {0, 2, 0}, {1, 2, 0}, {2, 2, 1}, {0, 3, 0}, {1, 3, 0}, {2, 3, 2}, {3, 3, 6},
		{0, 24, 0}, {1, 24, 0}, {2, 24, 144}, {3, 24, 384}, {23, 24, 25300}, {24, 24, 27600}, {23, 23, 23276},
	} {
		sameInt(t, fmt.Sprintf("MostSpread(%d, %d)", c.k, c.n), impl.MostSpread(c.k, c.n), c.want)
	}
}

// TestNoGreaterSpread also asks that a rhythm has the greatest spread, so that MostSpread is not too great.
func TestNoGreaterSpread(t *testing.T) {
	for n := 1; n <= 12; n++ {
		most := make([]int, n+1)
		for _, r := range allRhythmsOf(n) {
			k := len(r.Beats)
			most[k] = max(most[k], impl.SpreadOf(r))
		}
		for k, want := range most {
			sameInt(t, fmt.Sprintf("MostSpread(%d, %d)", k, n), impl.MostSpread(k, n), want)
		}
	}
	random := newRandom()
	for range 5 * samples {
		r := randomRhythm(random, 13+random.IntN(12))
		if spread, most := impl.SpreadOf(r), impl.MostSpread(len(r.Beats), r.Size); spread > most {
			t.Errorf("SpreadOf(%q) = %d, but the most is %d", textOf(r), spread, most)
		}
	}
}

func TestCountEvenOfAllRhythms(t *testing.T) {
	for n := 1; n <= 12; n++ {
		counts := make([]int, n+1)
		for _, r := range allRhythmsOf(n) {
			if impl.IsEven(r) {
				counts[len(r.Beats)]++
			}
		}
		for k, want := range counts {
			sameInt(t, fmt.Sprintf("CountEven(%d, %d)", k, n), impl.CountEven(k, n), want)
		}
	}
}

// stepLists has all lists of k steps, each of them low or low + 1, with the sum n.
func stepLists(k int, n int, low int) [][]int {
	if n < k*low || n > k*(low+1) {
		return nil
	}
	if k == 0 {
		return [][]int{nil}
	}
	var lists [][]int
	for _, step := range []int{low, low + 1} {
		for _, list := range stepLists(k-1, n-step, low) {
			lists = append(lists, append(list, step))
		}
	}
	return lists
}

// countEvenBySteps tries only rhythms whose steps differ by at most 1: no others are even.
func countEvenBySteps(k int, n int) int {
	count := 0
	for _, steps := range stepLists(k, n, n/k) {
		for first := range steps[k-1] {
			if r, ok := impl.FromSteps(steps, first); ok && impl.IsEven(r) {
				count++
			}
		}
	}
	return count
}

func TestCountEvenOfLongRhythms(t *testing.T) {
	for n := 13; n <= 24; n++ {
		for k := 1; k <= n; k++ {
			sameInt(t, fmt.Sprintf("CountEven(%d, %d)", k, n), impl.CountEven(k, n), countEvenBySteps(k, n))
		}
	}
}

func TestCountEven(t *testing.T) {
	for _, c := range []struct {
		k    int
		n    int
		want int
	}{
		{4, 8, 2}, {2, 8, 4}, {3, 8, 8}, {5, 8, 8}, {6, 8, 4}, {7, 8, 8}, {5, 12, 12}, {8, 12, 3}, {9, 12, 4}, {3, 9, 3}, {6, 9, 3}, {4, 7, 7},
		{0, 1, 1}, {1, 1, 1}, {0, 2, 1}, {1, 2, 2}, {2, 2, 1}, {0, 3, 1}, {1, 3, 3}, {2, 3, 3}, {3, 3, 1}, {0, 8, 1}, {1, 8, 8}, {8, 8, 1},
		{0, 24, 1}, {1, 24, 24}, {2, 24, 12}, {5, 24, 24}, {12, 24, 2}, {16, 24, 3}, {18, 24, 4}, {22, 24, 12}, {23, 24, 24}, {24, 24, 1}, {0, 23, 1}, {12, 23, 23}, {23, 23, 1},
	} {
		sameInt(t, fmt.Sprintf("CountEven(%d, %d)", c.k, c.n), impl.CountEven(c.k, c.n), c.want)
	}
}

// isNearest checks both results of NearestEven.
func isNearest(t *testing.T, text string, want string, common int) {
	t.Helper()
	got, count := impl.NearestEven(rhythmOfText(text))
	if !equalRhythms(got, rhythmOfText(want)) || count != common {
		t.Errorf("NearestEven(%q) = %v, %d, want %q, %d", text, got, count, want, common)
	}
}

// nearestText has the first rotation that no other one exceeds.
func nearestText(text string) (string, int) {
	turns := turnedTexts(evenText(len(placesOf(text)), len(text)))
	nearest := turns[0]
	for _, turned := range turns {
		if sharedPlaces(text, turned) > sharedPlaces(text, nearest) {
			nearest = turned
		}
	}
	return nearest, sharedPlaces(text, nearest)
}

func TestNearestEvenOfManyRhythms(t *testing.T) {
	for _, r := range rhythmsForForms() {
		want, common := nearestText(textOf(r))
		isNearest(t, textOf(r), want, common)
	}
}

// TestNearestEvenOfEvenRhythms has rhythms that are even: all their beats are common.
func TestNearestEvenOfEvenRhythms(t *testing.T) {
	for k, n := range beatsAndSizes {
		for _, text := range turnedTexts(evenText(k, n)) {
			isNearest(t, text, text, k)
		}
		isNearest(t, groupedText(k, n), groupedText(k, n), k)
	}
}

func TestNearestEven(t *testing.T) {
	for _, c := range []struct {
		text   string
		want   string
		common int
	}{
		// The rotation by 0 is among the nearest ones, or one by more pulses is the first of them.
		{"xxx.....", "x.x..x..", 2}, {".xxx....", ".x.x..x.", 2}, {"xx......", "x...x...", 1}, {".xx.....", ".x...x..", 1}, {"......xx", "..x...x.", 1}, {"xx.x....", ".x.x..x.", 2}, {"..xx.x..", "x.x..x..", 2},
		{"xxxx....", "x.x.x.x.", 2}, {".xxxx...", "x.x.x.x.", 2}, {".x.xxx..", ".x.x.x.x", 3}, {"xxxxx...", "xx.xx.x.", 4}, {"...xxxxx", ".x.xx.xx", 4}, {"xxxxxx..", "xxx.xxx.", 5}, {"x.xx", "x.xx", 3},
		// Even already, and rotations of the even one.
		{"x.x..x..", "x.x..x..", 3}, {"x..x..x.", "x..x..x.", 3}, {"..x..x.x", "..x..x.x", 3}, {"x.x.x.x.", "x.x.x.x.", 4}, {".x.x.x.x", ".x.x.x.x", 4}, {".x...x..", ".x...x..", 2}, {bar(24, 11, 23), bar(24, 11, 23), 2},
		// No beats, one beat, and a beat on every pulse.
		{".", ".", 0}, {"x", "x", 1}, {"..", "..", 0}, {".x", ".x", 1}, {"xx", "xx", 2}, {"...", "...", 0}, {"..x", "..x", 1}, {"x.x", "x.x", 2}, {"xxx", "xxx", 3}, {"........", "........", 0}, {".......x", ".......x", 1}, {"xxxxxxxx", "xxxxxxxx", 8}, {bar(24), bar(24), 0}, {bar(24, 23), bar(24, 23), 1}, {full(24), full(24), 24}, {"." + full(23), "." + full(23), 23},
		{bar(24, 0, 1, 2, 3), bar(24, 0, 6, 12, 18), 1}, {bar(24, 5, 6, 11, 12), bar(24, 0, 6, 12, 18), 2}, {bar(24, 5, 11, 12, 18), bar(24, 0, 6, 12, 18), 2}, {bar(24, 5, 11, 12, 17), bar(24, 5, 11, 17, 23), 3}, {full(22) + "..", full(11) + "." + full(11) + ".", 21},
	} {
		isNearest(t, c.text, c.want, c.common)
	}
}

// TestNearestEvenIsARotation asks the functions of the chapters before.
func TestNearestEvenIsARotation(t *testing.T) {
	for _, r := range rhythmsForForms() {
		got, common := impl.NearestEven(r)
		even, _ := impl.EvenRhythm(len(r.Beats), r.Size)
		overlaps := impl.OverlapsOf(r, even)
		k := impl.RotationTo(even, got)
		if k < 0 || overlaps[k] != common || slices.Index(overlaps, slices.Max(overlaps)) != k {
			t.Errorf("NearestEven(%q) = %q, %d, the rotation by %d, and the overlaps are %v", textOf(r), textOf(got), common, k, overlaps)
		}
	}
}

func TestNoEvenRhythms(t *testing.T) {
	for _, c := range noBeatsAndSizes() {
		k, n := c[0], c[1]
		label := fmt.Sprintf("(%d, %d", k, n)
		got, ok := impl.EvenRhythm(k, n)
		isNoRhythm(t, "EvenRhythm"+label+")", got, ok)
		got, ok = impl.GroupedEven(k, n)
		isNoRhythm(t, "GroupedEven"+label+")", got, ok)
		sameInt(t, "MostSpread"+label+")", impl.MostSpread(k, n), -1)
		sameInt(t, "CountEven"+label+")", impl.CountEven(k, n), -1)
		for _, m := range append(extremes(), -1, 0, 1, 7, 8, 23, 24, k, n, n-1) {
			got, ok = impl.ShiftedEven(k, n, m)
			isNoRhythm(t, fmt.Sprintf("ShiftedEven%s, %d)", label, m), got, ok)
		}
	}
}

// isNotEven checks the functions of a rhythm that is not valid.
func isNotEven(t *testing.T, bad impl.Rhythm) {
	t.Helper()
	r, memory := withSpare(bad)
	before := slices.Clone(memory)
	name := shortName(bad)
	isBool(t, "IsEven "+name, impl.IsEven(r), false)
	sameInt(t, "SpreadOf "+name, impl.SpreadOf(r), -1)
	got, common := impl.NearestEven(r)
	if !equalRhythms(got, impl.Rhythm{}) || common != -1 {
		t.Errorf("NearestEven %s = %v, %d, want the zero value, -1", name, got, common)
	}
	if !slices.Equal(memory, before) {
		t.Errorf("a function of even rhythms changes %s", name)
	}
}

func TestInvalidRhythmsAreNotEven(t *testing.T) {
	for _, bad := range invalidRhythms() {
		isNotEven(t, bad)
	}
	// These have the remainders of an even rhythm.
	for _, beats := range [][]int{{-2, 0, 3}, {3, 6, 8}, {0, 3, 14}, {0, 3, 6, 8}, {0, 6, 3}, {0, 3, 3, 6}, {-8, 3, 6}, {8}, {-8}} {
		isNotEven(t, impl.Rhythm{Size: 8, Beats: beats})
	}
}

// TestEvenWithoutBeats holds a nil list of beats against an empty one, and against one with memory behind it.
func TestEvenWithoutBeats(t *testing.T) {
	for size := 1; size <= 24; size++ {
		for _, r := range []impl.Rhythm{{Size: size}, {Size: size, Beats: []int{}}, {Size: size, Beats: []int{0, 0, 7}[:0]}} {
			isBool(t, fmt.Sprintf("IsEven without beats and Size %d", size), impl.IsEven(r), true)
			sameInt(t, fmt.Sprintf("SpreadOf without beats and Size %d", size), impl.SpreadOf(r), 0)
			got, common := impl.NearestEven(r)
			isRhythm(t, fmt.Sprintf("NearestEven without beats and Size %d", size), got, common == 0, impl.Rhythm{Size: size})
		}
	}
}

// isNewMemory overwrites one result; an earlier one and a later one must keep their beats.
func isNewMemory(t *testing.T, label string, made func() impl.Rhythm) {
	t.Helper()
	first := made()
	kept := impl.Rhythm{Size: first.Size, Beats: slices.Clone(first.Beats)}
	spoil(made())
	isRhythm(t, label+" after another result was changed", first, true, kept)
	isRhythm(t, label+" once more", made(), true, kept)
}

func TestReturnedEvenRhythmsAreNew(t *testing.T) {
	for k, n := range beatsAndSizes {
		label := fmt.Sprintf("(%d, %d)", k, n)
		isNewMemory(t, "EvenRhythm"+label, func() impl.Rhythm { r, _ := impl.EvenRhythm(k, n); return r })
		isNewMemory(t, "GroupedEven"+label, func() impl.Rhythm { r, _ := impl.GroupedEven(k, n); return r })
		isNewMemory(t, "ShiftedEven"+label, func() impl.Rhythm { r, _ := impl.ShiftedEven(k, n, min(k, n-1)); return r })
	}
}

func TestReturnedNearestRhythmsAreNew(t *testing.T) {
	for _, text := range append(textsForMemory(), "xxx.....", ".xx.....", bar(24, 0, 12)) {
		r, memory := withSpare(rhythmOfText(text))
		before := slices.Clone(memory)
		isNewMemory(t, fmt.Sprintf("NearestEven(%q)", text), func() impl.Rhythm { got, _ := impl.NearestEven(r); return got })
		sameInts(t, fmt.Sprintf("the beats of %q after NearestEven", text), memory, before)
		impl.IsEven(r)
		impl.SpreadOf(r)
		sameInts(t, fmt.Sprintf("the beats of %q after questions about even rhythms", text), memory, before)
	}
}

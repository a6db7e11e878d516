package tests

import (
	"fmt"
	"math/bits"
	"math/rand/v2"
	"slices"
	"strings"
	"testing"

	"loop.example/g03204/impl"
)

// The expected values of this file are made of texts and of numbers: a rhythm avoids d if it has no beat in common with itself, turned by d.

func textAvoids(text string, d int) bool {
	return sharedPlaces(text, turnedText(text, d)) == 0
}

func textPairs(text string) []int {
	var pairs []int
	half := len(text) / 2
	for p := range half {
		if text[p] == 'x' && text[p+half] == 'x' {
			pairs = append(pairs, p)
		}
	}
	return pairs
}

func withX(text string, p int) string { return text[:p] + "x" + text[p+1:] }

// textFree sets a beat on each other place and looks whether the text still avoids d.
func textFree(text string, d int) []int {
	var free []int
	for p := range text {
		if text[p] == '.' && textAvoids(withX(text, p), d) {
			free = append(free, p)
		}
	}
	return free
}

// masksAvoiding has, for each number of beats, how many rhythms of n pulses avoid d, and the last one of their texts (an empty one if there are none).
// The first pulse is the greatest bit of a number, so that the greatest number has the last text.
func masksAvoiding(n int, d int) ([]int, []string) {
	counts := make([]int, n+1)
	texts := make([]string, n+1)
	greatest := make([]int, n+1)
	for mask := range 1 << n {
		if mask&turnedMask(mask, n, d) == 0 {
			k := bits.OnesCount(uint(mask))
			counts[k]++
			greatest[k] = mask
		}
	}
	for k := range texts {
		if counts[k] > 0 {
			texts[k] = strings.NewReplacer("0", ".", "1", "x").Replace(fmt.Sprintf("%0*b", n, greatest[k]))
		}
	}
	return counts, texts
}

func turnedMask(mask int, n int, d int) int { return (mask<<d | mask>>(n-d)) & (1<<n - 1) }

// mostBeats is the greatest number of beats for which there is a rhythm.
func mostBeats(counts []int) int {
	most := 0
	for k, count := range counts {
		if count > 0 {
			most = k
		}
	}
	return most
}

// walkedCircles walks from each pulse that no circle has yet, pulse by pulse.
func walkedCircles(n int, d int) [][]int {
	var circles [][]int
	taken := bar(n)
	for first := strings.Index(taken, "."); first >= 0; first = strings.Index(taken, ".") {
		var circle []int
		for p := first; taken[p] == '.'; {
			circle = append(circle, p)
			taken = withX(taken, p)
			for range d {
				p++
				if p == n {
					p = 0
				}
			}
		}
		circles = append(circles, circle)
	}
	return circles
}

// sizesAndIntervals goes through all n and d for which there are circles.
func sizesAndIntervals(yield func(n int, d int) bool) {
	for n := 2; n <= 24; n++ {
		for d := 1; d < n; d++ {
			if !yield(n, d) {
				return
			}
		}
	}
}

// filledText sets some beats in random order, each where the text still avoids d.
func filledText(random *rand.Rand, n int, d int) string {
	text := bar(n)
	for _, p := range random.Perm(n)[:1+random.IntN(n)] {
		if textAvoids(withX(text, p), d) {
			text = withX(text, p)
		}
	}
	return text
}

// textsForOddity has many rhythms that avoid some d, and the same ones with one more beat somewhere.
func textsForOddity() []string {
	list := textsOf(rhythmsForForms())
	random := newRandom()
	for n, d := range sizesAndIntervals {
		text := filledText(random, n, d)
		list = append(list, text, withX(text, random.IntN(n)))
	}
	slices.Sort(list)
	return slices.Compact(list)
}

// TestAvoidsIntervalOfManyRhythms has FreePulses as well, for each d from below 0 to above Size.
func TestAvoidsIntervalOfManyRhythms(t *testing.T) {
	for _, text := range textsForOddity() {
		r := rhythmOfText(text)
		for _, d := range numbersAround(r.Size) {
			avoids := 1 <= d && d < r.Size && textAvoids(text, d)
			isBool(t, fmt.Sprintf("AvoidsInterval(%q, %d)", text, d), impl.AvoidsInterval(r, d), avoids)
			var free []int
			if avoids {
				free = textFree(text, d)
			}
			sameInts(t, fmt.Sprintf("FreePulses(%q, %d)", text, d), impl.FreePulses(r, d), free)
		}
	}
}

func TestOppositesOfManyRhythms(t *testing.T) {
	for _, text := range textsForOddity() {
		r := rhythmOfText(text)
		var pairs []int
		if r.Size%2 == 0 {
			pairs = textPairs(text)
		}
		sameInts(t, fmt.Sprintf("OppositePairs(%q)", text), impl.OppositePairs(r), pairs)
		isBool(t, fmt.Sprintf("HasOddity(%q)", text), impl.HasOddity(r), len(pairs) == 0)
	}
}

func TestAvoidsInterval(t *testing.T) {
	for _, c := range []struct {
		text   string
		avoids []int
	}{
		// There is no d from 1 up to 1.
		{".", nil}, {"x", nil},
		// No beats and one beat avoid each d, also where d times two is Size.
		{"..", []int{1}}, {"x.", []int{1}}, {".x", []int{1}}, {"...", []int{1, 2}}, {".x.", []int{1, 2}}, {"....", []int{1, 2, 3}}, {"x...", []int{1, 2, 3}}, {"........", numbersFrom1(8)}, {".......x", numbersFrom1(8)}, {bar(23, 0), numbersFrom1(23)}, {bar(24), numbersFrom1(24)}, {bar(24, 0), numbersFrom1(24)}, {bar(24, 23), numbersFrom1(24)},
		// Two beats are d apart forwards, and Size - d around the end of the bar.
		{"xx", nil}, {"xx.", nil}, {"x.x", nil}, {".xx", nil}, {"x..x", []int{2}}, {"xx..", []int{2}}, {"x.x.", []int{1, 3}}, {".x.x", []int{1, 3}}, {"x..x....", []int{1, 2, 4, 6, 7}}, {".....x.x", []int{1, 3, 4, 5, 7}}, {"x......x", []int{2, 3, 4, 5, 6}}, {"x...x...", []int{1, 2, 3, 5, 6, 7}}, {"x.....x.", []int{1, 3, 4, 5, 7}}, {".x.....x", []int{1, 3, 4, 5, 7}},
		{bar(24, 0, 12), slices.Concat(numbersFrom1(12), numbersFrom1(24)[12:])}, {bar(24, 0, 23), numbersFrom1(23)[1:]}, {bar(24, 11, 12), numbersFrom1(23)[1:]},
		// Other numbers of beats.
		{"x..x..x.", []int{1, 4, 7}}, {"x.x..x..", []int{1, 4, 7}}, {"xx.x....", []int{4}}, {"x.xx....", []int{4}}, {"xx.xx...", nil}, {"x.x.x...", []int{1, 3, 5, 7}}, {"x.x.x.x.", []int{1, 3, 5, 7}}, {"xx..xx..", []int{2, 6}}, {"xxxx....", []int{4}}, {"xxxx.", nil}, {"x.x..", []int{1, 4}}, {"xx.x...", nil}, {"x..x..x..", []int{1, 2, 4, 5, 7, 8}}, {"x...x...x...", []int{1, 2, 3, 5, 6, 7, 9, 10, 11}}, {"xxx...xxx...", []int{3, 9}}, {"x.x.xx.x.x.x", nil}, {"x.x.x..x.x..", []int{1, 6, 11}},
		{bar(24, 0, 1, 2, 3, 4, 5, 6, 7, 8, 9, 10, 11), []int{12}}, {strings.Repeat("x.", 12), []int{1, 3, 5, 7, 9, 11, 13, 15, 17, 19, 21, 23}}, {strings.Repeat("x..", 8), []int{1, 2, 4, 5, 7, 8, 10, 11, 13, 14, 16, 17, 19, 20, 22, 23}},
		// A beat on every pulse, and on all but one.
		{"xxx", nil}, {"xxxx", nil}, {"xxxxxxxx", nil}, {"xxxxxxx.", nil}, {full(23), nil}, {full(24), nil}, {"." + full(23), nil},
	} {
		r := rhythmOfText(c.text)
		for _, d := range numbersAround(r.Size) {
			isBool(t, fmt.Sprintf("AvoidsInterval(%q, %d)", c.text, d), impl.AvoidsInterval(r, d), slices.Contains(c.avoids, d))
		}
	}
}

func TestOpposites(t *testing.T) {
	for _, c := range []struct {
		text  string
		odd   bool
		pairs []int
	}{
		// An odd Size always has oddity, and no pairs.
		{".", true, nil}, {"x", true, nil}, {"...", true, nil}, {"x..", true, nil}, {"xx.", true, nil}, {"x.x", true, nil}, {"xxx", true, nil}, {"xxxxx", true, nil}, {"x..x..x", true, nil}, {"xxxxxxx", true, nil}, {bar(23, 0, 11), true, nil}, {bar(23, 0, 12), true, nil}, {full(23), true, nil},
		// No beats, one beat, and other rhythms without pairs.
		{"..", true, nil}, {"x.", true, nil}, {".x", true, nil}, {"....", true, nil}, {"xx..", true, nil}, {"x..x", true, nil}, {"........", true, nil}, {"....x...", true, nil}, {"x..x..x.", true, nil}, {"xxxx....", true, nil}, {"....xxxx", true, nil}, {"x.xx.x..", true, nil}, {"xx....xx", true, nil}, {"x..x....", true, nil}, {"x....x..", true, nil}, {bar(24), true, nil}, {bar(24, 23), true, nil}, {bar(24, 0, 11), true, nil}, {bar(24, 0, 13), true, nil}, {bar(24, 0, 3, 6, 8, 11, 14, 16, 19, 22), true, nil},
		// One pair.
		{"xx", false, []int{0}}, {"x.x.", false, []int{0}}, {".x.x", false, []int{1}}, {"x...x...", false, []int{0}}, {"...x...x", false, []int{3}}, {"xx.xx...", false, []int{0}}, {".xxx.x..", false, []int{1}}, {"xxx..x..", false, []int{1}}, {bar(24, 0, 12), false, []int{0}}, {bar(24, 11, 23), false, []int{11}}, {bar(22, 3, 14), false, []int{3}},
		// Several pairs.
		{"xxxx", false, []int{0, 1}}, {"x.x.x.x.", false, []int{0, 2}}, {".x.x.x.x", false, []int{1, 3}}, {"xx..xx..", false, []int{0, 1}}, {"xx.x.xxx", false, []int{1, 3}}, {"xx.x.x", false, []int{0}}, {"xx.xxx", false, []int{0, 1}}, {"xxxxxx", false, []int{0, 1, 2}}, {"x.xxx.xx", false, []int{0, 2, 3}}, {full(24), false, numbersUpTo(12)}, {"." + full(23), false, numbersFrom1(12)}, {strings.Repeat("x.", 12), false, []int{0, 2, 4, 6, 8, 10}}, {bar(24, 2, 7, 11, 14, 19, 20, 23), false, []int{2, 7, 11}},
	} {
		r := rhythmOfText(c.text)
		isBool(t, fmt.Sprintf("HasOddity(%q)", c.text), impl.HasOddity(r), c.odd)
		sameInts(t, fmt.Sprintf("OppositePairs(%q)", c.text), impl.OppositePairs(r), c.pairs)
	}
}

func TestOddSizesHaveOddity(t *testing.T) {
	for _, text := range textsForOddity() {
		r := rhythmOfText(text)
		half := impl.AvoidsInterval(r, r.Size/2)
		isBool(t, fmt.Sprintf("HasOddity(%q)", text), impl.HasOddity(r), r.Size%2 == 1 || half)
		if r.Size%2 == 1 {
			sameInts(t, fmt.Sprintf("OppositePairs(%q)", text), impl.OppositePairs(r), nil)
		}
	}
}

func TestFreePulses(t *testing.T) {
	for _, c := range []struct {
		text string
		d    int
		want []int
	}{
		// All pulses.
		{"..", 1, []int{0, 1}}, {"...", 1, []int{0, 1, 2}}, {"...", 2, []int{0, 1, 2}}, {"........", 1, numbersUpTo(8)}, {"........", 4, numbersUpTo(8)}, {"........", 7, numbersUpTo(8)}, {bar(24), 12, numbersUpTo(24)}, {bar(24), 23, numbersUpTo(24)}, {bar(23), 5, numbersUpTo(23)},
		// Some: the pulses d before a beat and d after it are not free, also around the end of the bar; where d is Size / 2 they are the same.
		{"x....", 1, []int{2, 3}}, {"x....", 2, []int{1, 4}}, {"x.....", 3, []int{1, 2, 4, 5}}, {".....x", 3, []int{0, 1, 3, 4}}, {"x.....", 1, []int{2, 3, 4}}, {"x.....", 5, []int{2, 3, 4}}, {".....x", 1, []int{1, 2, 3}}, {"...x....", 2, []int{0, 2, 4, 6, 7}}, {"x.......", 3, []int{1, 2, 4, 6, 7}}, {".......x", 3, []int{0, 1, 3, 5, 6}}, {"x..x....", 1, []int{5, 6}}, {"xx......", 4, []int{2, 3, 6, 7}}, {"x..x..x.", 4, []int{1, 5}}, {"xx......", 2, []int{4, 5}}, {"x.x.....", 1, []int{4, 5, 6}}, {"x...", 2, []int{1, 3}}, {"x.x.", 1, nil}, {bar(24, 0), 12, slices.Concat(numbersFrom1(12), numbersFrom1(24)[12:])}, {bar(24, 23), 1, numbersFrom1(22)}, {bar(24, 0), 23, numbersUpTo(23)[2:]}, {bar(24, 5), 7, []int{0, 1, 2, 3, 4, 6, 7, 8, 9, 10, 11, 13, 14, 15, 16, 17, 18, 19, 20, 21, 23}},
		// None.
		{"x.", 1, nil}, {".x", 1, nil}, {"x..", 1, nil}, {".x.", 2, nil}, {"xx..", 2, nil}, {"x..x", 2, nil}, {"x.x.x.x.", 1, nil}, {"x..x..x.", 1, nil}, {"xxxx....", 4, nil}, {"xxx.....", 3, nil}, {"x.x..", 1, nil}, {"xxx......", 3, nil}, {full(12) + bar(12), 12, nil}, {strings.Repeat("x.", 12), 23, nil},
		// The rhythm itself does not avoid d, also where other pulses are far from its beats.
		{"xx", 1, nil}, {"xxx", 1, nil}, {"xx......", 1, nil}, {"xx......", 7, nil}, {"x......x", 1, nil}, {"x...x...", 4, nil}, {"x..x..x.", 3, nil}, {"x..x..x.", 5, nil}, {"x..x..x.", 2, nil}, {full(24), 12, nil}, {bar(24, 0, 23), 1, nil},
		// There is no such d.
		{".", 0, nil}, {".", 1, nil}, {"x", 1, nil}, {"x", 0, nil}, {"..", 0, nil}, {"..", 2, nil}, {"..", 3, nil}, {"x.......", 0, nil}, {"x.......", 8, nil}, {"x.......", 9, nil}, {"x.......", -1, nil}, {"x.......", -7, nil}, {"........", 8, nil}, {"........", 0, nil}, {bar(24), 24, nil}, {bar(24), 25, nil},
	} {
		sameInts(t, fmt.Sprintf("FreePulses(%q, %d)", c.text, c.d), impl.FreePulses(rhythmOfText(c.text), c.d), c.want)
	}
}

// TestAddingFreePulses asks AvoidsInterval itself after a beat was added.
func TestAddingFreePulses(t *testing.T) {
	random := newRandom()
	for n, d := range sizesAndIntervals {
		for range 3 {
			text := filledText(random, n, d)
			free := impl.FreePulses(rhythmOfText(text), d)
			for p := range n {
				if text[p] == '.' {
					longer := withX(text, p)
					isBool(t, fmt.Sprintf("AvoidsInterval(%q, %d), where pulse %d was added", longer, d, p), impl.AvoidsInterval(rhythmOfText(longer), d), slices.Contains(free, p))
				} else if slices.Contains(free, p) {
					t.Errorf("FreePulses(%q, %d) has the beat %d", text, d, p)
				}
			}
		}
	}
}

// TestFillingFreePulses adds the first free pulse until there is none; each rhythm on the way avoids d.
func TestFillingFreePulses(t *testing.T) {
	for n, d := range sizesAndIntervals {
		r := impl.Rhythm{Size: n}
		for free := impl.FreePulses(r, d); len(free) > 0; free = impl.FreePulses(r, d) {
			r, _ = impl.JoinRhythms(r, impl.Rhythm{Size: n, Beats: free[:1]})
			isBool(t, fmt.Sprintf("AvoidsInterval(%q, %d)", textOf(r), d), impl.AvoidsInterval(r, d), true)
		}
		if len(r.Beats) == 0 || len(r.Beats) > impl.MostAvoiding(n, d) {
			t.Errorf("%q avoids %d, and MostAvoiding is %d", textOf(r), d, impl.MostAvoiding(n, d))
		}
	}
}

// TestAvoidingOfAllNumbers has, for each n from 2 to 16, all d and k and numbers that are none.
func TestAvoidingOfAllNumbers(t *testing.T) {
	for n := 2; n <= 16; n++ {
		for _, d := range numbersAround(n) {
			counts, texts, most := []int(nil), []string(nil), -1
			if 1 <= d && d < n {
				counts, texts = masksAvoiding(n, d)
				most = mostBeats(counts)
			}
			sameInt(t, fmt.Sprintf("MostAvoiding(%d, %d)", n, d), impl.MostAvoiding(n, d), most)
			for _, k := range numbersAround(n) {
				count, text := -1, ""
				if 0 <= k && k < len(counts) {
					count, text = counts[k], texts[k]
				}
				sameInt(t, fmt.Sprintf("CountAvoiding(%d, %d, %d)", n, d, k), impl.CountAvoiding(n, d, k), count)
				isFirst(t, n, d, k, text)
			}
		}
	}
}

// isFirst takes an empty text for no rhythm.
func isFirst(t *testing.T, n int, d int, k int, want string) {
	t.Helper()
	got, ok := impl.FirstAvoiding(n, d, k)
	label := fmt.Sprintf("FirstAvoiding(%d, %d, %d)", n, d, k)
	if want == "" {
		isNoRhythm(t, label, got, ok)
	} else {
		isRhythm(t, label, got, ok, rhythmOfText(want))
	}
}

// TestMostAvoidingOfLongRhythms looks through all rhythms. Those that avoid d avoid n - d, so that half of the d are enough for the search.
func TestMostAvoidingOfLongRhythms(t *testing.T) {
	for n := 17; n <= 24; n++ {
		for d := 1; d <= n/2; d++ {
			most := 0
			for mask := range 1 << n {
				if mask&turnedMask(mask, n, d) == 0 {
					most = max(most, bits.OnesCount(uint(mask)))
				}
			}
			sameInt(t, fmt.Sprintf("MostAvoiding(%d, %d)", n, d), impl.MostAvoiding(n, d), most)
			sameInt(t, fmt.Sprintf("MostAvoiding(%d, %d)", n, n-d), impl.MostAvoiding(n, n-d), most)
		}
	}
}

// TestMostAvoidingOnWalkedCircles takes every other pulse of a circle that is walked; where the number of pulses is odd, the last one is left out.
func TestMostAvoidingOnWalkedCircles(t *testing.T) {
	for n, d := range sizesAndIntervals {
		text := bar(n)
		for _, circle := range walkedCircles(n, d) {
			for i := 0; i+1 < len(circle); i += 2 {
				text = withX(text, circle[i])
			}
		}
		r := rhythmOfText(text)
		isBool(t, fmt.Sprintf("AvoidsInterval(%q, %d)", text, d), impl.AvoidsInterval(r, d), true)
		sameInts(t, fmt.Sprintf("FreePulses(%q, %d)", text, d), impl.FreePulses(r, d), nil)
		sameInt(t, fmt.Sprintf("MostAvoiding(%d, %d)", n, d), impl.MostAvoiding(n, d), strings.Count(text, "x"))
	}
}

func TestMostAvoiding(t *testing.T) {
	for _, c := range []struct {
		n    int
		d    int
		want int
	}{
		{2, 1, 1}, {3, 1, 1}, {3, 2, 1}, {4, 1, 2}, {4, 2, 2}, {4, 3, 2}, {5, 1, 2}, {5, 2, 2}, {5, 4, 2},
		// A prime n, and other d that have no divisor with n other than 1.
		{7, 1, 3}, {7, 3, 3}, {7, 6, 3}, {8, 1, 4}, {8, 3, 4}, {8, 7, 4}, {9, 1, 4}, {9, 2, 4}, {12, 5, 6}, {12, 7, 6}, {13, 6, 6}, {15, 4, 7}, {16, 15, 8}, {17, 1, 8}, {17, 16, 8}, {19, 7, 9}, {23, 1, 11}, {23, 11, 11}, {23, 22, 11}, {24, 1, 12}, {24, 7, 12}, {24, 23, 12},
		// d that has such a divisor: circles of an even and of an odd number of pulses.
		{6, 2, 2}, {6, 4, 2}, {6, 3, 3}, {8, 2, 4}, {8, 4, 4}, {9, 3, 3}, {9, 6, 3}, {10, 2, 4}, {10, 4, 4}, {10, 5, 5}, {12, 3, 6}, {12, 4, 4}, {12, 8, 4}, {12, 6, 6}, {14, 4, 6}, {15, 3, 6}, {15, 5, 5}, {15, 6, 6}, {15, 10, 5}, {16, 8, 8}, {18, 6, 6}, {18, 9, 9}, {20, 4, 8}, {20, 16, 8}, {20, 8, 8}, {21, 3, 9}, {21, 7, 7}, {21, 14, 7}, {22, 2, 10}, {22, 20, 10}, {24, 12, 12}, {24, 8, 8}, {24, 16, 8}, {24, 3, 12}, {24, 9, 12}, {24, 10, 12},
		{-1, 1, -1}, {0, 0, -1}, {0, 1, -1}, {1, 0, -1}, {1, 1, -1}, {2, 0, -1}, {2, 2, -1}, {2, 3, -1}, {2, -1, -1}, {8, 0, -1}, {8, 8, -1}, {8, 9, -1}, {8, 12, -1}, {8, -3, -1}, {24, 0, -1}, {24, 24, -1}, {24, 25, -1}, {25, 1, -1}, {25, 5, -1}, {25, 24, -1}, {26, 13, -1},
	} {
		sameInt(t, fmt.Sprintf("MostAvoiding(%d, %d)", c.n, c.d), impl.MostAvoiding(c.n, c.d), c.want)
	}
}

func TestCountAvoiding(t *testing.T) {
	for _, c := range []struct {
		n    int
		d    int
		want []int
	}{
		{2, 1, []int{1, 2, 0}}, {3, 1, []int{1, 3, 0, 0}}, {3, 2, []int{1, 3, 0, 0}}, {4, 1, []int{1, 4, 2, 0, 0}}, {4, 2, []int{1, 4, 4, 0, 0}}, {5, 1, []int{1, 5, 5, 0, 0, 0}}, {5, 2, []int{1, 5, 5, 0, 0, 0}},
		// Circles of two pulses.
		{6, 3, []int{1, 6, 12, 8, 0, 0, 0}}, {8, 4, []int{1, 8, 24, 32, 16, 0, 0, 0, 0}}, {12, 6, append([]int{1, 12, 60, 160, 240, 192, 64}, zeros(6)...)}, {16, 8, append([]int{1, 16, 112, 448, 1120, 1792, 1792, 1024, 256}, zeros(8)...)},
		// One circle of all pulses.
		{7, 1, []int{1, 7, 14, 7, 0, 0, 0, 0}}, {7, 3, []int{1, 7, 14, 7, 0, 0, 0, 0}}, {7, 6, []int{1, 7, 14, 7, 0, 0, 0, 0}}, {8, 1, []int{1, 8, 20, 16, 2, 0, 0, 0, 0}}, {8, 3, []int{1, 8, 20, 16, 2, 0, 0, 0, 0}}, {13, 5, append([]int{1, 13, 65, 156, 182, 91, 13}, zeros(7)...)}, {16, 1, append([]int{1, 16, 104, 352, 660, 672, 336, 64, 2}, zeros(8)...)}, {16, 15, append([]int{1, 16, 104, 352, 660, 672, 336, 64, 2}, zeros(8)...)}, {16, 7, append([]int{1, 16, 104, 352, 660, 672, 336, 64, 2}, zeros(8)...)},
		// Several circles.
		{6, 2, []int{1, 6, 9, 0, 0, 0, 0}}, {6, 4, []int{1, 6, 9, 0, 0, 0, 0}}, {8, 2, []int{1, 8, 20, 16, 4, 0, 0, 0, 0}}, {9, 3, []int{1, 9, 27, 27, 0, 0, 0, 0, 0, 0}}, {9, 6, []int{1, 9, 27, 27, 0, 0, 0, 0, 0, 0}}, {10, 4, append([]int{1, 10, 35, 50, 25}, zeros(6)...)}, {15, 5, append([]int{1, 15, 90, 270, 405, 243}, zeros(10)...)}, {15, 10, append([]int{1, 15, 90, 270, 405, 243}, zeros(10)...)},
	} {
		for k, want := range c.want {
			sameInt(t, fmt.Sprintf("CountAvoiding(%d, %d, %d)", c.n, c.d, k), impl.CountAvoiding(c.n, c.d, k), want)
		}
		for _, k := range append(extremes(), -2, -1, c.n+1, c.n+2, 2*c.n) {
			sameInt(t, fmt.Sprintf("CountAvoiding(%d, %d, %d)", c.n, c.d, k), impl.CountAvoiding(c.n, c.d, k), -1)
		}
	}
}

func TestOppositeIntervalsCountTheSame(t *testing.T) {
	for n, d := range sizesAndIntervals {
		sameInt(t, fmt.Sprintf("MostAvoiding(%d, %d)", n, d), impl.MostAvoiding(n, d), impl.MostAvoiding(n, n-d))
		for k := range n + 1 {
			sameInt(t, fmt.Sprintf("CountAvoiding(%d, %d, %d)", n, d, k), impl.CountAvoiding(n, d, k), impl.CountAvoiding(n, n-d, k))
			first, ok := impl.FirstAvoiding(n, n-d, k)
			isFirst(t, n, d, k, textOf(first))
			isBool(t, fmt.Sprintf("FirstAvoiding(%d, %d, %d)", n, n-d, k), ok, first.Size == n)
		}
	}
}

// TestCountsOfAllBeats adds up the counts of all numbers of beats, and holds the sum against the rhythms for which AvoidsInterval is true.
func TestCountsOfAllBeats(t *testing.T) {
	for n := 2; n <= 11; n++ {
		all := allRhythmsOf(n)
		for d := 1; d < n; d++ {
			avoiding := 0
			for _, r := range all {
				if impl.AvoidsInterval(r, d) {
					avoiding++
				}
			}
			sameInt(t, fmt.Sprintf("the sum of CountAvoiding(%d, %d, k)", n, d), sumOfCounts(n, d), avoiding)
		}
	}
}

func sumOfCounts(n int, d int) int {
	sum := 0
	for k := range n + 1 {
		sum += impl.CountAvoiding(n, d, k)
	}
	return sum
}

// TestCountsOfNeighbours: the sums for d of 1 are the sums of the two before, from 3 and 4 on, as for all d that have no divisor with n other than 1.
func TestCountsOfNeighbours(t *testing.T) {
	before, sum := 1, 3
	for n := 2; n <= 16; n++ {
		for d := 1; d < n; d++ {
			if d == 1 || mayStretch(d, n) {
				sameInt(t, fmt.Sprintf("the sum of CountAvoiding(%d, %d, k)", n, d), sumOfCounts(n, d), sum)
			}
		}
		before, sum = sum, before+sum
	}
}

// TestFirstAvoidingUpToTheMost: there is a rhythm exactly for k from 0 to MostAvoiding, and none for more beats.
func TestFirstAvoidingUpToTheMost(t *testing.T) {
	for n := 2; n <= 16; n++ {
		for d := 1; d < n; d++ {
			for k := -1; k <= n+1; k++ {
				r, ok := impl.FirstAvoiding(n, d, k)
				label := fmt.Sprintf("FirstAvoiding(%d, %d, %d)", n, d, k)
				isBool(t, label, ok, 0 <= k && k <= impl.MostAvoiding(n, d))
				isBool(t, label+" has a count", ok, impl.CountAvoiding(n, d, k) > 0)
				if ok && (!impl.AvoidsInterval(r, d) || impl.CountBeats(r) != k || r.Size != n) {
					t.Errorf("%s = %v", label, r)
				}
			}
		}
	}
}

func TestFirstAvoiding(t *testing.T) {
	for _, c := range []struct {
		n    int
		d    int
		k    int
		want string
	}{
		{2, 1, 0, ".."}, {2, 1, 1, "x."}, {2, 1, 2, ""}, {2, 1, 3, ""}, {2, 2, 1, ""}, {3, 1, 0, "..."}, {3, 1, 1, "x.."}, {3, 2, 1, "x.."}, {3, 1, 2, ""}, {3, 2, 3, ""}, {4, 1, 2, "x.x."}, {4, 2, 2, "xx.."}, {4, 3, 2, "x.x."}, {4, 2, 3, ""},
		// d is 1, n - 1 or n / 2.
		{5, 1, 2, "x.x.."}, {5, 4, 2, "x.x.."}, {5, 1, 3, ""}, {8, 1, 3, "x.x.x..."}, {8, 1, 4, "x.x.x.x."}, {8, 7, 4, "x.x.x.x."}, {8, 1, 5, ""}, {8, 4, 4, "xxxx...."}, {8, 4, 5, ""}, {12, 6, 6, "xxxxxx......"}, {12, 6, 7, ""}, {16, 1, 7, "x.x.x.x.x.x.x..."}, {16, 1, 8, "x.x.x.x.x.x.x.x."}, {16, 15, 8, "x.x.x.x.x.x.x.x."}, {16, 15, 9, ""}, {16, 8, 8, full(8) + bar(8)}, {16, 8, 9, ""}, {16, 8, 16, ""}, {16, 5, 0, bar(16)}, {16, 5, 1, bar(16, 0)},
		// The most beats as early as possible would leave no room for others.
		{8, 3, 2, "xx......"}, {8, 3, 3, "xxx....."}, {8, 3, 4, "x.x.x.x."}, {8, 3, 5, ""}, {8, 5, 4, "x.x.x.x."}, {12, 5, 5, "xxxxx......."}, {12, 5, 6, "x.x.x.x.x.x."}, {12, 7, 6, "x.x.x.x.x.x."}, {12, 5, 7, ""},
		// Some beats are later.
		{5, 2, 2, "xx..."}, {5, 2, 3, ""}, {6, 2, 2, "xx...."}, {6, 2, 3, ""}, {6, 3, 3, "xxx..."}, {6, 3, 4, ""}, {7, 2, 3, "xx..x.."}, {7, 3, 3, "xxx...."}, {7, 3, 4, ""}, {9, 3, 3, "xxx......"}, {9, 3, 4, ""}, {9, 6, 3, "xxx......"}, {10, 4, 4, "xxxx......"}, {10, 4, 5, ""}, {12, 2, 6, "xx..xx..xx.."}, {12, 3, 5, "xxx...xx...."}, {12, 3, 6, "xxx...xxx..."}, {12, 3, 7, ""}, {12, 4, 4, "xxxx........"}, {12, 4, 5, ""},
		{1, 1, 0, ""}, {1, 0, 1, ""}, {0, 1, 0, ""}, {0, 0, 0, ""}, {8, 0, 1, ""}, {8, 8, 1, ""}, {8, 9, 0, ""}, {8, 3, -1, ""}, {8, 3, 9, ""}, {8, -3, 1, ""}, {16, 16, 1, ""}, {16, 1, 17, ""}, {17, 1, 0, ""}, {17, 1, 1, ""}, {17, 1, 8, ""}, {24, 12, 1, ""}, {25, 1, 1, ""},
	} {
		isFirst(t, c.n, c.d, c.k, c.want)
	}
}

func sameLists(t *testing.T, label string, got [][]int, want [][]int) {
	t.Helper()
	if !slices.EqualFunc(got, want, slices.Equal) {
		t.Errorf("%s = %v, want %v", label, got, want)
	}
}

func TestCirclesOfAllPulses(t *testing.T) {
	for n := 2; n <= 24; n++ {
		for _, d := range numbersAround(n) {
			var want [][]int
			if 1 <= d && d < n {
				want = walkedCircles(n, d)
			}
			sameLists(t, fmt.Sprintf("CirclesOf(%d, %d)", n, d), impl.CirclesOf(n, d), want)
		}
	}
}

func TestCirclesOf(t *testing.T) {
	for _, c := range []struct {
		n    int
		d    int
		want [][]int
	}{
		// One circle of all pulses.
		{2, 1, [][]int{{0, 1}}}, {3, 1, [][]int{{0, 1, 2}}}, {3, 2, [][]int{{0, 2, 1}}}, {5, 2, [][]int{{0, 2, 4, 1, 3}}}, {5, 3, [][]int{{0, 3, 1, 4, 2}}}, {7, 6, [][]int{{0, 6, 5, 4, 3, 2, 1}}}, {8, 1, [][]int{{0, 1, 2, 3, 4, 5, 6, 7}}}, {8, 3, [][]int{{0, 3, 6, 1, 4, 7, 2, 5}}}, {8, 7, [][]int{{0, 7, 6, 5, 4, 3, 2, 1}}}, {12, 7, [][]int{{0, 7, 2, 9, 4, 11, 6, 1, 8, 3, 10, 5}}}, {23, 1, [][]int{numbersUpTo(23)}}, {24, 1, [][]int{numbersUpTo(24)}},
		// Circles of two pulses.
		{4, 2, [][]int{{0, 2}, {1, 3}}}, {6, 3, [][]int{{0, 3}, {1, 4}, {2, 5}}}, {8, 4, [][]int{{0, 4}, {1, 5}, {2, 6}, {3, 7}}}, {24, 12, [][]int{{0, 12}, {1, 13}, {2, 14}, {3, 15}, {4, 16}, {5, 17}, {6, 18}, {7, 19}, {8, 20}, {9, 21}, {10, 22}, {11, 23}}},
		// Other circles.
		{6, 2, [][]int{{0, 2, 4}, {1, 3, 5}}}, {6, 4, [][]int{{0, 4, 2}, {1, 5, 3}}}, {9, 3, [][]int{{0, 3, 6}, {1, 4, 7}, {2, 5, 8}}}, {9, 6, [][]int{{0, 6, 3}, {1, 7, 4}, {2, 8, 5}}}, {10, 4, [][]int{{0, 4, 8, 2, 6}, {1, 5, 9, 3, 7}}}, {12, 8, [][]int{{0, 8, 4}, {1, 9, 5}, {2, 10, 6}, {3, 11, 7}}}, {12, 9, [][]int{{0, 9, 6, 3}, {1, 10, 7, 4}, {2, 11, 8, 5}}}, {16, 10, [][]int{{0, 10, 4, 14, 8, 2, 12, 6}, {1, 11, 5, 15, 9, 3, 13, 7}}}, {24, 16, [][]int{{0, 16, 8}, {1, 17, 9}, {2, 18, 10}, {3, 19, 11}, {4, 20, 12}, {5, 21, 13}, {6, 22, 14}, {7, 23, 15}}},
		{0, 0, nil}, {0, 1, nil}, {1, 0, nil}, {1, 1, nil}, {2, 0, nil}, {2, 2, nil}, {2, 3, nil}, {6, 0, nil}, {6, 6, nil}, {6, 8, nil}, {6, -2, nil}, {-6, 2, nil}, {-6, -2, nil}, {24, 24, nil}, {24, 36, nil}, {25, 1, nil}, {25, 5, nil}, {25, 24, nil}, {48, 24, nil},
	} {
		sameLists(t, fmt.Sprintf("CirclesOf(%d, %d)", c.n, c.d), impl.CirclesOf(c.n, c.d), c.want)
	}
}

// TestCirclesHaveAllPulses: each pulse is on one circle, d after the one before; a rhythm avoids d if it has no two neighbours of a circle.
func TestCirclesHaveAllPulses(t *testing.T) {
	random := newRandom()
	for n, d := range sizesAndIntervals {
		text := filledText(random, n, d)
		text = withX(text, random.IntN(n))
		avoids, least := true, -1
		var all []int
		for _, circle := range impl.CirclesOf(n, d) {
			if len(circle) < 2 || circle[0] != slices.Min(circle) || circle[0] <= least {
				t.Fatalf("CirclesOf(%d, %d) has %v after the circle of %d", n, d, circle, least)
			}
			least = circle[0]
			all = append(all, circle...)
			for i, p := range circle {
				next := circle[(i+1)%len(circle)]
				sameInt(t, fmt.Sprintf("the pulse after %d in CirclesOf(%d, %d)", p, n, d), next, (p+d)%n)
				avoids = avoids && (text[p] != 'x' || text[next] != 'x')
			}
		}
		slices.Sort(all)
		sameInts(t, fmt.Sprintf("the pulses of CirclesOf(%d, %d)", n, d), all, numbersUpTo(n))
		isBool(t, fmt.Sprintf("AvoidsInterval(%q, %d)", text, d), impl.AvoidsInterval(rhythmOfText(text), d), avoids)
	}
}

// isNotAvoiding checks the functions of numbers of which no n is from 2 to 24, or no d is from 1 up to n.
func isNotAvoiding(t *testing.T, n int, d int) {
	t.Helper()
	sameInt(t, fmt.Sprintf("MostAvoiding(%d, %d)", n, d), impl.MostAvoiding(n, d), -1)
	sameLists(t, fmt.Sprintf("CirclesOf(%d, %d)", n, d), impl.CirclesOf(n, d), nil)
	areNotCounted(t, n, d)
}

func areNotCounted(t *testing.T, n int, d int) {
	t.Helper()
	for _, k := range append(extremes(), -n, -1, 0, 1, 2, 8, 16, 17, n-1, n, d) {
		sameInt(t, fmt.Sprintf("CountAvoiding(%d, %d, %d)", n, d, k), impl.CountAvoiding(n, d, k), -1)
		isFirst(t, n, d, k, "")
	}
}

func TestNoCircles(t *testing.T) {
	for _, n := range append(extremes(), -1000, -24, -8, -2, -1, 0, 1, 25, 26, 32, 48, 1000) {
		for _, d := range append(extremes(), -n, -1, 0, 1, 2, 7, 12, 23, 24, 25, n-1, n, n/2) {
			isNotAvoiding(t, n, d)
		}
	}
	for n := 2; n <= 24; n++ {
		for _, d := range append(extremes(), -1000, -n-1, -n, 1-n, -2, -1, 0, n, n+1, n+n/2, 2*n-1, 2*n, 1000) {
			isNotAvoiding(t, n, d)
		}
	}
}

// TestNoCountsOfLongRhythms has numbers for which there are circles, but too many pulses to count.
func TestNoCountsOfLongRhythms(t *testing.T) {
	for n := 17; n <= 24; n++ {
		for d := 1; d < n; d++ {
			areNotCounted(t, n, d)
		}
	}
}

// avoidsNothing checks the functions of a rhythm that is not valid.
func avoidsNothing(t *testing.T, bad impl.Rhythm) {
	t.Helper()
	r, memory := withSpare(bad)
	before := slices.Clone(memory)
	name := shortName(bad)
	isBool(t, "HasOddity "+name, impl.HasOddity(r), false)
	sameInts(t, "OppositePairs "+name, impl.OppositePairs(r), nil)
	for _, d := range append(extremes(), -1, 0, 1, 2, 3, 4, 5, 7, 8, 23, 24, bad.Size-1, bad.Size/2, bad.Size) {
		isBool(t, fmt.Sprintf("AvoidsInterval %s by %d", name, d), impl.AvoidsInterval(r, d), false)
		sameInts(t, fmt.Sprintf("FreePulses %s by %d", name, d), impl.FreePulses(r, d), nil)
	}
	if !slices.Equal(memory, before) {
		t.Errorf("a function of forbidden intervals changes %s", name)
	}
}

func TestInvalidRhythmsAvoidNothing(t *testing.T) {
	for _, bad := range invalidRhythms() {
		avoidsNothing(t, bad)
	}
	// These have the remainders of rhythms with oddity or with pairs, or an odd Size.
	for _, beats := range [][]int{{-2, 0, 3}, {3, 6, 8}, {0, 3, 14}, {0, 6, 3}, {4, 0}, {0, 4, 4}, {0, 0, 4}, {0, 4, 12}, {-4, 0}, {8, 12}, {8}, {-8}} {
		avoidsNothing(t, impl.Rhythm{Size: 8, Beats: beats})
	}
	for _, beats := range [][]int{{-1}, {7}, {0, 7}, {0, 0}, {3, 0}} {
		avoidsNothing(t, impl.Rhythm{Size: 7, Beats: beats})
	}
	for _, r := range []impl.Rhythm{{Size: 25, Beats: []int{0, 7, 14}}, {Size: 26, Beats: []int{0, 13}}, {Size: -7}, {Size: -7, Beats: []int{0}}, {Size: 8000, Beats: []int{0, 4000}}, {Size: 8001, Beats: []int{0}}} {
		avoidsNothing(t, r)
	}
}

// TestOddityWithoutBeats holds a nil list of beats against an empty one, and against one with memory behind it.
func TestOddityWithoutBeats(t *testing.T) {
	for size := 1; size <= 24; size++ {
		for _, r := range []impl.Rhythm{{Size: size}, {Size: size, Beats: []int{}}, {Size: size, Beats: []int{0, 0, 7}[:0]}} {
			label := fmt.Sprintf(" without beats and Size %d", size)
			isBool(t, "HasOddity"+label, impl.HasOddity(r), true)
			sameInts(t, "OppositePairs"+label, impl.OppositePairs(r), nil)
			for d := -1; d <= size+1; d++ {
				var free []int
				if 1 <= d && d < size {
					free = numbersUpTo(size)
				}
				isBool(t, fmt.Sprintf("AvoidsInterval%s by %d", label, d), impl.AvoidsInterval(r, d), free != nil)
				sameInts(t, fmt.Sprintf("FreePulses%s by %d", label, d), impl.FreePulses(r, d), free)
			}
		}
	}
}

// TestOddityOfAllBeats has a beat on every pulse.
func TestOddityOfAllBeats(t *testing.T) {
	for size := 1; size <= 24; size++ {
		r := rhythmOfText(full(size))
		isBool(t, fmt.Sprintf("HasOddity(%q)", full(size)), impl.HasOddity(r), size%2 == 1)
		for d := -1; d <= size+1; d++ {
			isBool(t, fmt.Sprintf("AvoidsInterval(%q, %d)", full(size), d), impl.AvoidsInterval(r, d), false)
			sameInts(t, fmt.Sprintf("FreePulses(%q, %d)", full(size), d), impl.FreePulses(r, d), nil)
		}
	}
}

func textsWithOddity() []string {
	return append(textsForMemory(), "xx", "xxx.....", "x.x.x.x.", "xx..xx..", "xxxx....", "x.......", ".......x", "........", "x..x..x..", full(24), bar(24, 0, 12), bar(24, 0, 1, 12, 13), bar(24, 5), bar(24))
}

func TestReturnedPulsesAreNew(t *testing.T) {
	for _, text := range textsWithOddity() {
		r, memory := withSpare(rhythmOfText(text))
		before := slices.Clone(memory)
		isNewList(t, fmt.Sprintf("OppositePairs(%q)", text), func() []int { return impl.OppositePairs(r) })
		for d := range r.Size + 1 {
			isNewList(t, fmt.Sprintf("FreePulses(%q, %d)", text, d), func() []int { return impl.FreePulses(r, d) })
		}
		sameInts(t, fmt.Sprintf("the beats of %q after its pairs and free pulses", text), memory, before)
	}
}

func TestAskingForOddityKeepsRhythms(t *testing.T) {
	for _, text := range textsWithOddity() {
		r, memory := withSpare(rhythmOfText(text))
		before := slices.Clone(memory)
		impl.HasOddity(r)
		for d := range r.Size + 1 {
			impl.AvoidsInterval(r, d)
		}
		sameInts(t, fmt.Sprintf("the beats of %q after questions about oddity", text), memory, before)
	}
}

func TestReturnedFirstRhythmsAreNew(t *testing.T) {
	for _, n := range []int{2, 3, 7, 8, 12, 16} {
		for d := 1; d < n; d++ {
			for k := range impl.MostAvoiding(n, d) + 1 {
				isNewMemory(t, fmt.Sprintf("FirstAvoiding(%d, %d, %d)", n, d, k), func() impl.Rhythm { r, _ := impl.FirstAvoiding(n, d, k); return r })
			}
		}
	}
}

func TestReturnedCirclesAreNew(t *testing.T) {
	for n, d := range sizesAndIntervals {
		listsAreNew(t, fmt.Sprintf("CirclesOf(%d, %d)", n, d), walkedCircles(n, d), func() [][]int { return impl.CirclesOf(n, d) })
	}
}

// listsAreNew overwrites each list of a result and the memory behind it; all the others must keep their numbers.
func listsAreNew(t *testing.T, label string, want [][]int, listed func() [][]int) {
	t.Helper()
	kept := listed()
	for i := range want {
		lists := listed()
		spoil(impl.Rhythm{Beats: lists[i]})
		others := slices.Concat(lists[:i], lists[i+1:])
		sameLists(t, fmt.Sprintf("%s but the one with the index %d, which was changed", label, i), others, slices.Concat(want[:i], want[i+1:]))
		clear(lists[:cap(lists)])
	}
	sameLists(t, label+" after other results were changed", kept, want)
	sameLists(t, label+" once more", listed(), want)
}

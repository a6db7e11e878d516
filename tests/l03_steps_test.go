package tests

import (
	"fmt"
	"math"
	"slices"
	"strconv"
	"strings"
	"testing"

	"loop.example/g03204/impl"
)

// walkedSteps walks from each beat, pulse by pulse and around the bar, to the next beat.
func walkedSteps(r impl.Rhythm) []int {
	var steps []int
	for _, beat := range r.Beats {
		step := 1
		for !slices.Contains(r.Beats, (beat+step)%r.Size) {
			step++
		}
		steps = append(steps, step)
	}
	return steps
}

// walkedSpans adds, for each first step, the k steps from there on, around the bar.
func walkedSpans(r impl.Rhythm, k int) []int {
	steps := walkedSteps(r)
	var spans []int
	for i := range steps {
		sum := 0
		for j := range k {
			sum += steps[(i+j)%len(steps)]
		}
		spans = append(spans, sum)
	}
	return spans
}

func sumOf(list []int) int {
	sum := 0
	for _, n := range list {
		sum += n
	}
	return sum
}

// differentNumbers looks for each number from 0 to MaxSize, instead of sorting.
func differentNumbers(list []int) []int {
	var found []int
	for n := range impl.MaxSize + 1 {
		if slices.Contains(list, n) {
			found = append(found, n)
		}
	}
	return found
}

func rhythmsWithBeats() []impl.Rhythm {
	return slices.DeleteFunc(manyRhythms(), func(r impl.Rhythm) bool { return len(r.Beats) == 0 })
}

func rhythmsWithoutBeats() []impl.Rhythm {
	var list []impl.Rhythm
	for size := 1; size <= 24; size++ {
		list = append(list, impl.Rhythm{Size: size}, impl.Rhythm{Size: size, Beats: []int{}})
	}
	return list
}

// rhythmsWithoutSteps are all those that have none: without beats, and not valid.
func rhythmsWithoutSteps() []impl.Rhythm {
	return append(rhythmsWithoutBeats(), invalidRhythms()...)
}

// shortName leaves out the beats of rhythms that are too long to be printed.
func shortName(r impl.Rhythm) string {
	if len(r.Beats) > 30 {
		return fmt.Sprintf("{%d and %d beats}", r.Size, len(r.Beats))
	}
	return fmt.Sprint(r)
}

func sameInts(t *testing.T, label string, got []int, want []int) {
	t.Helper()
	if !slices.Equal(got, want) {
		t.Errorf("%s = %v, want %v", label, got, want)
	}
}

func sameInt(t *testing.T, label string, got int, want int) {
	t.Helper()
	if got != want {
		t.Errorf("%s = %d, want %d", label, got, want)
	}
}

func ones(n int) []int { return slices.Repeat([]int{1}, n) }

func TestStepsOf(t *testing.T) {
	for _, r := range manyRhythms() {
		sameInts(t, fmt.Sprintf("StepsOf(%v)", r), impl.StepsOf(r), walkedSteps(r))
	}
	for text, want := range map[string][]int{
		"x..x..x.":                          {3, 3, 2},
		".x..x..x":                          {3, 3, 2},
		"..x..x.x":                          {3, 2, 3},
		"x":                                 {1},
		"x.":                                {2},
		".x":                                {2},
		"xx":                                {1, 1},
		".x.":                               {3},
		"......x.":                          {8},
		"x......x":                          {7, 1},
		".xx.....":                          {1, 7},
		strings.Repeat("x", 24):             ones(24),
		strings.Repeat(".", 23) + "x":       {24},
		"x" + strings.Repeat(".", 23):       {24},
		"x" + strings.Repeat(".", 22) + "x": {23, 1},
	} {
		sameInts(t, fmt.Sprintf("StepsOf(%q)", text), impl.StepsOf(rhythmOfText(text)), want)
	}
}

func rhythmOfText(text string) impl.Rhythm {
	r := impl.Rhythm{Size: len(text)}
	for p := range text {
		if text[p] == 'x' {
			r.Beats = append(r.Beats, p)
		}
	}
	return r
}

func TestStepsGoOnceAroundTheBar(t *testing.T) {
	for _, r := range rhythmsWithBeats() {
		steps := impl.StepsOf(r)
		if sumOf(steps) != r.Size || len(steps) != len(r.Beats) || slices.Min(steps) < 1 {
			t.Errorf("the steps of %v are %v: they do not go once around the bar", r, steps)
		}
	}
}

func TestStepsOfOneBeatAndOfAllBeats(t *testing.T) {
	for size := 1; size <= 24; size++ {
		sameInts(t, fmt.Sprintf("StepsOf a beat on each of %d pulses", size), impl.StepsOf(rhythmOfMask(size, -1)), ones(size))
		for p := range size {
			r := rhythmOfMask(size, 1<<p)
			sameInts(t, fmt.Sprintf("StepsOf(%v)", r), impl.StepsOf(r), []int{size})
		}
	}
}

func TestNoSteps(t *testing.T) {
	for _, r := range rhythmsWithoutSteps() {
		name := shortName(r)
		sameInts(t, "StepsOf "+name, impl.StepsOf(r), nil)
		sameInts(t, "StepSizes "+name, impl.StepSizes(r), nil)
		sameInt(t, "LongestStep "+name, impl.LongestStep(r), 0)
		sameInt(t, "ShortestStep "+name, impl.ShortestStep(r), 0)
		if got := impl.FormatSteps(r); got != "" {
			t.Errorf("FormatSteps %s = %q", name, got)
		}
		got, ok := impl.TurnSteps(r)
		isNoRhythm(t, "TurnSteps "+name, got, ok)
	}
}

func TestFromStepsRecoversRhythms(t *testing.T) {
	for _, r := range rhythmsWithBeats() {
		steps := impl.StepsOf(r)
		got, ok := impl.FromSteps(steps, r.Beats[0])
		isRhythm(t, fmt.Sprintf("FromSteps(%v, %d)", steps, r.Beats[0]), got, ok, r)
	}
}

// TestFromStepsOfAllShortLists looks up each list and first beat among all rhythms with its sum as Size.
func TestFromStepsOfAllShortLists(t *testing.T) {
	known := map[string]impl.Rhythm{}
	for size := 1; size <= 12; size++ {
		for _, r := range allRhythmsOf(size)[1:] {
			known[fmt.Sprint(walkedSteps(r), r.Beats[0])] = r
		}
	}
	check := func(steps []int) {
		for first := -2; first <= 7; first++ {
			got, ok := impl.FromSteps(steps, first)
			label := fmt.Sprintf("FromSteps(%v, %d)", steps, first)
			if want, has := known[fmt.Sprint(steps, first)]; has {
				isRhythm(t, label, got, ok, want)
			} else {
				isNoRhythm(t, label, got, ok)
			}
		}
	}
	for a := -2; a <= 6; a++ {
		check([]int{a})
		for b := -2; b <= 6; b++ {
			check([]int{a, b})
			for c := -2; a+b+c <= 12 && c <= 6; c++ {
				check([]int{a, b, c})
				for d := -1; a+b+c+d <= 12 && d <= 3; d++ {
					check([]int{a, b, c, d})
				}
			}
		}
	}
}

func TestFromStepsEdges(t *testing.T) {
	for _, c := range []struct {
		steps []int
		first int
		want  string
	}{
		{[]int{3, 3, 2}, 0, "x..x..x."}, {[]int{3, 3, 2}, 1, ".x..x..x"}, {[]int{3, 3, 2}, 2, ""}, {[]int{3, 3, 2}, 3, ""}, {[]int{3, 3, 2}, -1, ""},
		{[]int{3, 2, 3}, 2, "..x..x.x"}, {[]int{3, 2, 3}, 3, ""},
		{[]int{2, 3, 3}, 2, "..x.x..x"}, {[]int{1, 7}, 6, "......xx"}, {[]int{1, 7}, 7, ""}, {[]int{7, 1}, 0, "x......x"}, {[]int{7, 1}, 1, ""},
		{[]int{1}, 0, "x"}, {[]int{1}, 1, ""}, {[]int{1}, -1, ""},
		{[]int{2}, 0, "x."}, {[]int{2}, 1, ".x"}, {[]int{2}, 2, ""},
		{[]int{24}, 0, "x" + strings.Repeat(".", 23)}, {[]int{24}, 23, strings.Repeat(".", 23) + "x"}, {[]int{24}, 24, ""},
		{[]int{25}, 0, ""}, {[]int{25}, 24, ""}, {[]int{25}, 25, ""},
		{[]int{23, 1}, 0, "x" + strings.Repeat(".", 22) + "x"}, {[]int{1, 23}, 22, strings.Repeat(".", 22) + "xx"}, {[]int{1, 23}, 23, ""},
		{[]int{23, 2}, 0, ""}, {[]int{2, 23}, 0, ""}, {[]int{1, 24}, 0, ""}, {[]int{24, 1}, 0, ""}, {[]int{12, 12}, 11, strings.Repeat(".", 11) + "x" + strings.Repeat(".", 11) + "x"}, {[]int{12, 13}, 0, ""},
		{ones(24), 0, strings.Repeat("x", 24)}, {ones(24), 1, ""}, {ones(25), 0, ""},
		{append(ones(22), 2), 1, "." + strings.Repeat("x", 23)}, {append(ones(22), 2), 2, ""}, {append(ones(22), 3), 0, ""}, {append(ones(23), 2), 0, ""},
		{nil, 0, ""}, {nil, 1, ""}, {nil, -1, ""}, {[]int{}, 0, ""}, {nil, 23, ""}, {nil, math.MinInt64, ""}, {nil, math.MaxInt64, ""},
	} {
		got, ok := impl.FromSteps(c.steps, c.first)
		if textOf(got) != c.want || ok != (c.want != "") {
			t.Errorf("FromSteps(%v, %d) = %v, %t, want %q", c.steps, c.first, got, ok, c.want)
		}
	}
}

// TestFromStepsFirstBeats tries every first beat, of which only those below the last step leave room for all beats in the bar.
func TestFromStepsFirstBeats(t *testing.T) {
	for _, r := range rhythmsWithBeats() {
		steps := walkedSteps(r)
		for _, first := range append(extremes(), -25, -24, -1, 24, 25, -r.Size) {
			got, ok := impl.FromSteps(steps, first)
			isNoRhythm(t, fmt.Sprintf("FromSteps(%v, %d)", steps, first), got, ok)
		}
		for first := range 24 {
			got, ok := impl.FromSteps(steps, first)
			label := fmt.Sprintf("FromSteps(%v, %d)", steps, first)
			if move := first - r.Beats[0]; r.Beats[len(r.Beats)-1]+move < r.Size {
				isRhythm(t, label, got, ok, placed(r, func(p int) int { return p + move }))
			} else {
				isNoRhythm(t, label, got, ok)
			}
		}
	}
}

func TestFromStepsRefusesSteps(t *testing.T) {
	const most, least = math.MaxInt64, math.MinInt64
	for _, steps := range [][]int{
		{0}, {-1}, {-8}, {25}, {1000}, {most}, {least},
		{0, 8}, {8, 0}, {3, 0, 5}, {0, 0}, {-1, 9}, {9, -1}, {3, -1, 6}, {4, 4, -4, 4}, {30, -22}, {-22, 30}, {25, -1}, {3, -3, 8},
		{most, 1}, {1, most}, {most, most}, {3, most, 3}, {least, 8}, {8, least}, {least, least}, {least, least, 8},
		// The sums of these wrap around to 0 and to 8.
		{most, most, 2}, {most, most, 10}, {10, most, most}, {most, 1, least, 8}, {least, most, 9}, {8, least, most, 1}, {8, least, least},
		{1 << 62, 1 << 62, 1 << 62, 1 << 62}, {1 << 62, 1 << 62, 1 << 62, 1 << 62, 8}, {8, 1 << 62, 1 << 62, 1 << 62, 1 << 62}, {1 << 32, -1 << 32, 8},
		ones(26), ones(100000), make([]int, 24), make([]int, 100000), append(make([]int, 3), 8), slices.Repeat([]int{-1}, 24), slices.Repeat([]int{most}, 1000),
	} {
		for _, first := range append(extremes(), -1, 0, 1, 7, 23) {
			got, ok := impl.FromSteps(steps, first)
			label := fmt.Sprint(steps)
			if len(steps) > 30 {
				label = fmt.Sprintf("%d steps of %d", len(steps), steps[0])
			}
			isNoRhythm(t, fmt.Sprintf("FromSteps(%s, %d)", label, first), got, ok)
		}
	}
}

func TestLongestAndShortestStep(t *testing.T) {
	for _, r := range rhythmsWithBeats() {
		sameInt(t, fmt.Sprintf("LongestStep(%v)", r), impl.LongestStep(r), slices.Max(walkedSteps(r)))
		sameInt(t, fmt.Sprintf("ShortestStep(%v)", r), impl.ShortestStep(r), slices.Min(walkedSteps(r)))
	}
	for _, c := range []struct {
		text     string
		longest  int
		shortest int
	}{
		{"x..x..x.", 3, 2}, {"xx......", 7, 1}, {"x......x", 7, 1}, {"x", 1, 1}, {".x.", 3, 3}, {"xxx", 1, 1}, {".....x..", 8, 8},
		{strings.Repeat("x", 24), 1, 1}, {strings.Repeat(".", 23) + "x", 24, 24}, {"xx" + strings.Repeat(".", 22), 23, 1},
	} {
		r := rhythmOfText(c.text)
		sameInt(t, fmt.Sprintf("LongestStep(%q)", c.text), impl.LongestStep(r), c.longest)
		sameInt(t, fmt.Sprintf("ShortestStep(%q)", c.text), impl.ShortestStep(r), c.shortest)
	}
}

func TestStepSizes(t *testing.T) {
	for _, r := range rhythmsWithBeats() {
		sameInts(t, fmt.Sprintf("StepSizes(%v)", r), impl.StepSizes(r), differentNumbers(walkedSteps(r)))
	}
	for text, want := range map[string][]int{
		"x..x..x.":              {2, 3},
		"x......x":              {1, 7},
		"x...x.xx...x":          {1, 2, 4},
		"x":                     {1},
		".x.":                   {3},
		"x.x.x.":                {2},
		strings.Repeat("x", 24): {1},
	} {
		sameInts(t, fmt.Sprintf("StepSizes(%q)", text), impl.StepSizes(rhythmOfText(text)), want)
	}
}

func TestSpanOf(t *testing.T) {
	for _, r := range rhythmsWithBeats() {
		n := len(r.Beats)
		for k := -2; k <= n+2; k++ {
			spans := walkedSpans(r, max(k, 0))
			for i := -2; i <= n+2; i++ {
				want := 0
				if i >= 0 && i < n && k >= 0 && k <= n {
					want = spans[i]
				}
				if got := impl.SpanOf(r, i, k); got != want {
					t.Errorf("SpanOf(%v, %d, %d) = %d, want %d", r, i, k, got, want)
				}
			}
		}
	}
}

func TestSpanOfEdges(t *testing.T) {
	for _, c := range []struct {
		text string
		i    int
		k    int
		want int
	}{
		{"x..x..x.", 0, 0, 0}, {"x..x..x.", 0, 1, 3}, {"x..x..x.", 0, 2, 6}, {"x..x..x.", 0, 3, 8}, {"x..x..x.", 0, 4, 0},
		{"x..x..x.", 1, 0, 0}, {"x..x..x.", 1, 1, 3}, {"x..x..x.", 1, 2, 5}, {"x..x..x.", 1, 3, 8}, {"x..x..x.", 1, 4, 0},
		{"x..x..x.", 2, 0, 0}, {"x..x..x.", 2, 1, 2}, {"x..x..x.", 2, 2, 5}, {"x..x..x.", 2, 3, 8}, {"x..x..x.", 2, 4, 0},
		{"x..x..x.", 3, 1, 0}, {"x..x..x.", -1, 1, 0}, {"x..x..x.", 0, -1, 0},
		{"x", 0, 0, 0}, {"x", 0, 1, 1}, {"x", 0, 2, 0}, {"x", 1, 1, 0}, {"..x.", 0, 1, 4}, {"..x.", 1, 1, 0}, {"..x.", 0, 2, 0},
		{"....", 0, 0, 0}, {"....", 0, 1, 0}, {".", 0, 0, 0},
		{strings.Repeat("x", 24), 23, 24, 24}, {strings.Repeat("x", 24), 23, 23, 23}, {strings.Repeat("x", 24), 23, 25, 0}, {strings.Repeat("x", 24), 24, 1, 0},
		{"x" + strings.Repeat(".", 23), 0, 1, 24}, {"x" + strings.Repeat(".", 22) + "x", 1, 2, 24},
	} {
		sameInt(t, fmt.Sprintf("SpanOf(%q, %d, %d)", c.text, c.i, c.k), impl.SpanOf(rhythmOfText(c.text), c.i, c.k), c.want)
	}
}

func TestNoSpans(t *testing.T) {
	for _, r := range rhythmsWithoutSteps() {
		for _, k := range append(extremes(), -1, 0, 1, 2, 3, 24) {
			sameInts(t, fmt.Sprintf("SpanSizes(%s, %d)", shortName(r), k), impl.SpanSizes(r, k), nil)
			for _, i := range append(extremes(), -1, 0, 1, 2) {
				sameInt(t, fmt.Sprintf("SpanOf(%s, %d, %d)", shortName(r), i, k), impl.SpanOf(r, i, k), 0)
			}
		}
	}
}

func TestSpansOfExtremeNumbers(t *testing.T) {
	for _, r := range rhythmsWithBeats() {
		for _, big := range extremes() {
			sameInts(t, fmt.Sprintf("SpanSizes(%v, %d)", r, big), impl.SpanSizes(r, big), nil)
			sameInt(t, fmt.Sprintf("SpanOf(%v, %d, 1)", r, big), impl.SpanOf(r, big, 1), 0)
			sameInt(t, fmt.Sprintf("SpanOf(%v, 0, %d)", r, big), impl.SpanOf(r, 0, big), 0)
			for _, other := range extremes() {
				sameInt(t, fmt.Sprintf("SpanOf(%v, %d, %d)", r, big, other), impl.SpanOf(r, big, other), 0)
			}
		}
	}
}

func TestSpanSizes(t *testing.T) {
	for _, r := range rhythmsWithBeats() {
		n := len(r.Beats)
		for k := -2; k <= n+2; k++ {
			var want []int
			if k >= 0 && k <= n {
				want = differentNumbers(walkedSpans(r, k))
			}
			sameInts(t, fmt.Sprintf("SpanSizes(%v, %d)", r, k), impl.SpanSizes(r, k), want)
		}
	}
}

func TestSpanSizesEdges(t *testing.T) {
	for _, c := range []struct {
		text string
		k    int
		want []int
	}{
		{"x..x..x.", 0, []int{0}}, {"x..x..x.", 1, []int{2, 3}}, {"x..x..x.", 2, []int{5, 6}}, {"x..x..x.", 3, []int{8}}, {"x..x..x.", 4, nil}, {"x..x..x.", -1, nil},
		{"x.xx...x", 2, []int{3, 5}},
		{"x", 0, []int{0}}, {"x", 1, []int{1}}, {"x", 2, nil}, {".x.", 0, []int{0}}, {".x.", 1, []int{3}}, {".x.", 2, nil},
		{strings.Repeat("x", 24), 0, []int{0}}, {strings.Repeat("x", 24), 23, []int{23}}, {strings.Repeat("x", 24), 24, []int{24}}, {strings.Repeat("x", 24), 25, nil},
	} {
		sameInts(t, fmt.Sprintf("SpanSizes(%q, %d)", c.text, c.k), impl.SpanSizes(rhythmOfText(c.text), c.k), c.want)
	}
}

// TestRestsOf counts the beats that a pulse without a beat follows: there a run of such pulses begins.
func TestRestsOf(t *testing.T) {
	for _, r := range manyRhythms() {
		runs := 0
		for _, beat := range r.Beats {
			if !slices.Contains(r.Beats, (beat+1)%r.Size) {
				runs++
			}
		}
		sameInt(t, fmt.Sprintf("RestsOf(%v)", r), impl.RestsOf(r), runs)
	}
	for text, want := range map[string]int{
		"x..x..x.": 3, "xx.xx.x.": 3, "xx......": 1, "x......x": 1, ".x.": 1, "x": 0, "x.": 1, "xx": 0, ".": 0, "....": 0,
		strings.Repeat("x", 24): 0, strings.Repeat(".", 24): 0, strings.Repeat("x.", 12): 12, strings.Repeat("x", 23) + ".": 1,
	} {
		sameInt(t, fmt.Sprintf("RestsOf(%q)", text), impl.RestsOf(rhythmOfText(text)), want)
	}
	for _, r := range invalidRhythms() {
		sameInt(t, "RestsOf "+shortName(r), impl.RestsOf(r), -1)
	}
}

func TestFormatSteps(t *testing.T) {
	for _, r := range manyRhythms() {
		var texts []string
		for _, step := range walkedSteps(r) {
			texts = append(texts, strconv.Itoa(step))
		}
		if got, want := impl.FormatSteps(r), strings.Join(texts, "+"); got != want {
			t.Errorf("FormatSteps(%v) = %q, want %q", r, got, want)
		}
	}
	for text, want := range map[string]string{
		"x..x..x.":                     "3+3+2",
		".x..x..x":                     "3+3+2",
		"x......x":                     "7+1",
		"x":                            "1",
		".x.":                          "3",
		".":                            "",
		"....":                         "",
		strings.Repeat(".", 9) + "x":   "10",
		"xx" + strings.Repeat(".", 22): "1+23",
		"x" + strings.Repeat(".", 23):  "24",
		strings.Repeat("x", 24):        strings.Repeat("1+", 23) + "1",
	} {
		if got := impl.FormatSteps(rhythmOfText(text)); got != want {
			t.Errorf("FormatSteps(%q) = %q, want %q", text, got, want)
		}
	}
}

// TestTurnSteps walks the steps of r from the last one to the first, beginning with the first beat of r.
func TestTurnSteps(t *testing.T) {
	for _, r := range rhythmsWithBeats() {
		steps := walkedSteps(r)
		slices.Reverse(steps)
		mask, pulse := 0, r.Beats[0]
		for _, step := range steps {
			mask |= 1 << (pulse % r.Size)
			pulse += step
		}
		got, ok := impl.TurnSteps(r)
		isRhythm(t, fmt.Sprintf("TurnSteps(%v)", r), got, ok, rhythmOfMask(r.Size, mask))
	}
}

func TestTurnedStepsAreReversed(t *testing.T) {
	for _, r := range rhythmsWithBeats() {
		turned, ok := impl.TurnSteps(r)
		i := slices.Index(turned.Beats, r.Beats[0])
		if !ok || i < 0 {
			t.Errorf("TurnSteps(%v) = %v, %t, without the first beat", r, turned, ok)
			continue
		}
		steps := impl.StepsOf(turned)
		reversed := slices.Concat(steps[i:], steps[:i])
		slices.Reverse(reversed)
		sameInts(t, fmt.Sprintf("the steps of %v turned, in reverse order", r), reversed, impl.StepsOf(r))
	}
}

func TestTurnStepsEdges(t *testing.T) {
	for text, want := range map[string]string{
		"x..x..x.": "x.x..x..",
		"x.x..x..": "x..x..x.",
		// The beats of these go on beyond the last pulse.
		".x..x..x":                     ".x.x..x.",
		"..x..x.x":                     "..x..x.x",
		"...x...x":                     "...x...x",
		"....x..x":                     ".x..x...",
		"......xx":                     ".....xx.",
		".....x.x":                     "...x.x..",
		".....xxx":                     "...xxx..",
		"......x.":                     "......x.",
		"x":                            "x",
		".x":                           ".x",
		"xx":                           "xx",
		"xx......":                     "x......x",
		"xx.x....":                     "x....x.x",
		strings.Repeat("x", 24):        strings.Repeat("x", 24),
		strings.Repeat(".", 23) + "x":  strings.Repeat(".", 23) + "x",
		strings.Repeat(".", 22) + "xx": strings.Repeat(".", 21) + "xx.",
	} {
		got, ok := impl.TurnSteps(rhythmOfText(text))
		isRhythm(t, fmt.Sprintf("TurnSteps(%q)", text), got, ok, rhythmOfText(want))
	}
}

// listers are all the functions of chapter 4 that return a list.
func listers() map[string]func(impl.Rhythm) []int {
	return map[string]func(impl.Rhythm) []int{
		"StepsOf":                  impl.StepsOf,
		"StepSizes":                impl.StepSizes,
		"SpanSizes of no step":     func(r impl.Rhythm) []int { return impl.SpanSizes(r, 0) },
		"SpanSizes of 1 step":      func(r impl.Rhythm) []int { return impl.SpanSizes(r, 1) },
		"SpanSizes of all steps":   func(r impl.Rhythm) []int { return impl.SpanSizes(r, len(r.Beats)) },
		"SpanSizes of a step more": func(r impl.Rhythm) []int { return impl.SpanSizes(r, len(r.Beats)+1) },
	}
}

func someTexts() []string {
	return []string{"x", ".", "xx", "x..x..x.", "..x..x.x", "....", "xxxx", "......x.", "x.....x....x", strings.Repeat("x", 24), strings.Repeat(".", 24)}
}

func TestReturnedStepsAreNew(t *testing.T) {
	for _, text := range someTexts() {
		for name, listed := range listers() {
			r, memory := withSpare(rhythmOfText(text))
			before := slices.Clone(memory)
			first := listed(r)
			kept := slices.Clone(first)
			spoil(impl.Rhythm{Beats: listed(r)})
			sameInts(t, fmt.Sprintf("the beats of %q after %s", text, name), memory, before)
			sameInts(t, fmt.Sprintf("%s of %q after another result was changed", name, text), first, kept)
			sameInts(t, fmt.Sprintf("%s of %q once more", name, text), listed(r), kept)
		}
	}
}

func TestTurnedRhythmsAreNew(t *testing.T) {
	for _, text := range someTexts() {
		r, memory := withSpare(rhythmOfText(text))
		before := slices.Clone(memory)
		first, ok := impl.TurnSteps(r)
		kept := slices.Clone(first.Beats)
		second, _ := impl.TurnSteps(r)
		spoil(second)
		sameInts(t, fmt.Sprintf("the beats of %q after TurnSteps", text), memory, before)
		sameInts(t, fmt.Sprintf("TurnSteps of %q after another result was changed", text), first.Beats, kept)
		third, again := impl.TurnSteps(r)
		if again != ok || third.Size != first.Size || !slices.Equal(third.Beats, kept) {
			t.Errorf("TurnSteps of %q is %v once more, and was %v", text, third, kept)
		}
	}
}

func TestFromStepsKeepsItsList(t *testing.T) {
	for _, list := range [][]int{{3, 3, 2}, {1}, {24}, ones(24), {1, 2, 3, 4}, {}, {0}, {25}, {3, -1}, {3, math.MaxInt64, math.MaxInt64}} {
		memory := append(slices.Clone(list), 77, 78, 79)
		steps, before := memory[:len(list)], slices.Clone(memory)
		for _, first := range []int{-1, 0, 1, 24} {
			got, ok := impl.FromSteps(steps, first)
			kept := impl.Rhythm{Size: got.Size, Beats: slices.Clone(got.Beats)}
			other, _ := impl.FromSteps(steps, first)
			spoil(other)
			sameInts(t, fmt.Sprintf("the list %v after FromSteps", list), memory, before)
			if !equalRhythms(got, kept) {
				t.Errorf("FromSteps returns the same memory twice for %v", list)
			}
			again, still := impl.FromSteps(steps, first)
			if still != ok || !equalRhythms(again, kept) {
				t.Errorf("FromSteps(%v, %d) is %v after an earlier result was changed, and was %v", list, first, again, kept)
			}
		}
	}
}

func TestAskingForStepsKeepsRhythms(t *testing.T) {
	list := invalidRhythms()
	for _, text := range someTexts() {
		list = append(list, rhythmOfText(text))
	}
	for _, original := range list {
		r, memory := withSpare(original)
		before := slices.Clone(memory)
		impl.LongestStep(r)
		impl.ShortestStep(r)
		impl.SpanOf(r, 0, 1)
		impl.SpanOf(r, len(r.Beats)-1, len(r.Beats))
		impl.RestsOf(r)
		impl.FormatSteps(r)
		impl.TurnSteps(r)
		for _, listed := range listers() {
			listed(r)
		}
		if !slices.Equal(memory, before) {
			t.Errorf("questions about the steps change the beats of %s", shortName(original))
		}
	}
}

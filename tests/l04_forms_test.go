package tests

import (
	"fmt"
	"slices"
	"strings"
	"testing"

	"loop.example/g03204/impl"
)

// The expected values of this file are made of texts alone: a text is rotated by cutting it, and mirrored by reversing it.

// turnedText has the character of place p on place p + k, around; k is from 0 to the length.
func turnedText(text string, k int) string {
	cut := len(text) - k
	return text[cut:] + text[:cut]
}

// mirroredText keeps the first character and reverses the others.
func mirroredText(text string) string {
	rest := []byte(text[1:])
	slices.Reverse(rest)
	return text[:1] + string(rest)
}

func turnedTexts(text string) []string {
	var list []string
	for k := range len(text) {
		list = append(list, turnedText(text, k))
	}
	return list
}

func formTexts(text string) []string {
	return append(turnedTexts(text), turnedTexts(mirroredText(text))...)
}

func textPeriod(text string) int {
	return 1 + slices.Index(append(turnedTexts(text)[1:], text), text)
}

func textAxes(text string) []int {
	var axes []int
	for k := range len(text) {
		if turnedText(mirroredText(text), k) == text {
			axes = append(axes, k)
		}
	}
	return axes
}

// rhythmsOfPeriods repeats short rhythms, so that every divisor of a Size is a period, and adds some of the longest rhythms.
func rhythmsOfPeriods() []impl.Rhythm {
	var list []impl.Rhythm
	for size := 9; size <= 24; size++ {
		for part := 1; part <= 8; part++ {
			if size%part != 0 {
				continue
			}
			for _, text := range []string{"x.......", "xx......", "xx.x....", ".x.x....", "..xx.x.x"} {
				list = append(list, rhythmOfText(strings.Repeat(text[:part], size/part)))
			}
		}
	}
	return list
}

func rhythmsForForms() []impl.Rhythm {
	return append(manyRhythms(), rhythmsOfPeriods()...)
}

func TestLeastRotation(t *testing.T) {
	for _, r := range rhythmsForForms() {
		got, ok := impl.LeastRotation(r)
		isRhythm(t, fmt.Sprintf("LeastRotation(%q)", textOf(r)), got, ok, rhythmOfText(slices.Max(turnedTexts(textOf(r)))))
	}
	for text, want := range map[string]string{
		"x..x..x.": "x.x..x..",
		"x.x..x..": "x.x..x..",
		"..x..x.x": "x.x..x..",
		"x......x": "xx......",
		".......x": "x.......",
		"xx.x....": "xx.x....",
		"x.xx....": "xx....x.",
		".x.x":     "x.x.",
		"x.x.":     "x.x.",
		"x.xx.xx.": "xx.xx.x.",
		"x":        "x",
		".":        ".",
		"....":     "....",
		"xxxx":     "xxxx",
		".xx":      "xx.",

		strings.Repeat("x", 24):                strings.Repeat("x", 24),
		strings.Repeat(".", 24):                strings.Repeat(".", 24),
		strings.Repeat(".", 23) + "x":          "x" + strings.Repeat(".", 23),
		strings.Repeat("..x", 8):               strings.Repeat("x..", 8),
		"x" + strings.Repeat(".", 22) + "x":    "xx" + strings.Repeat(".", 22),
		"." + strings.Repeat("x", 23):          strings.Repeat("x", 23) + ".",
		"xx" + strings.Repeat(".", 19) + "xxx": "xxxxx" + strings.Repeat(".", 19),
	} {
		got, ok := impl.LeastRotation(rhythmOfText(text))
		isRhythm(t, fmt.Sprintf("LeastRotation(%q)", text), got, ok, rhythmOfText(want))
	}
}

func TestLeastForm(t *testing.T) {
	for _, r := range rhythmsForForms() {
		got, ok := impl.LeastForm(r)
		isRhythm(t, fmt.Sprintf("LeastForm(%q)", textOf(r)), got, ok, rhythmOfText(slices.Max(formTexts(textOf(r)))))
	}
	for text, want := range map[string]string{
		// The mirror of these comes before their own rotations in the order of texts, so that it is left.
		"xx.x....": "xx.x....",
		"....xx.x": "xx.x....",
		"x.xxx.xx": "xxx.xxx.",
		"xxx.x...": "xxx.x...",
		// The mirror of these comes behind their own rotations, so that it is taken.
		"x.xx....": "xx.x....",
		"xx....x.": "xx.x....",
		"..x.xx..": "xx.x....",
		"x.xxx...": "xxx.x...",
		// These are their own mirrors, apart from a rotation.
		"x..x..x.": "x.x..x..",
		"x......x": "xx......",
		"x":        "x",
		".":        ".",
		".x":       "x.",
		"....":     "....",
		"xxxx":     "xxxx",
		".x.x":     "x.x.",

		strings.Repeat("x", 24):                                     strings.Repeat("x", 24),
		strings.Repeat(".", 24):                                     strings.Repeat(".", 24),
		"x.xx" + strings.Repeat(".", 20):                            "xx.x" + strings.Repeat(".", 20),
		strings.Repeat("x.xx........", 2):                           strings.Repeat("xx.x........", 2),
		strings.Repeat(".", 20) + "xx.x":                            "xx.x" + strings.Repeat(".", 20),
		strings.Repeat(".", 12) + "x..x.x" + strings.Repeat(".", 6): "x.x..x" + strings.Repeat(".", 18),
	} {
		got, ok := impl.LeastForm(rhythmOfText(text))
		isRhythm(t, fmt.Sprintf("LeastForm(%q)", text), got, ok, rhythmOfText(want))
	}
}

// TestFormsHaveOneLeastForm turns and mirrors rhythms by the functions of chapter 3.
func TestFormsHaveOneLeastForm(t *testing.T) {
	for _, r := range rhythmsForForms() {
		rotation, _ := impl.LeastRotation(r)
		form, _ := impl.LeastForm(r)
		mirrored, _ := impl.MirrorRhythm(r)
		for k := -r.Size; k <= r.Size; k += max(r.Size/4, 1) {
			turned, _ := impl.RotateRhythm(r, k)
			got, ok := impl.LeastRotation(turned)
			isRhythm(t, fmt.Sprintf("LeastRotation of %v rotated by %d", r, k), got, ok, rotation)
			turned, _ = impl.RotateRhythm(mirrored, k)
			got, ok = impl.LeastForm(turned)
			isRhythm(t, fmt.Sprintf("LeastForm of %v mirrored and rotated by %d", r, k), got, ok, form)
		}
	}
}

func TestPeriodOf(t *testing.T) {
	for _, r := range rhythmsForForms() {
		want := textPeriod(textOf(r))
		sameInt(t, fmt.Sprintf("PeriodOf(%q)", textOf(r)), impl.PeriodOf(r), want)
		isBool(t, fmt.Sprintf("IsPeriodic(%q)", textOf(r)), impl.IsPeriodic(r), want < r.Size)
	}
	for text, want := range map[string]int{
		"x..x..x.": 8, "x.x.": 2, ".x.x": 2, "x...": 4, "xx..": 4, "xxxx": 1, "....": 1, "x": 1, ".": 1, "x.": 2, "xx": 1, "..": 1,
		"x..x..": 3, "xx.xx.": 3, "x.x.x.": 2, "x..x.x": 6, "x.x.x..": 7, "xxxxxxx": 1,
		strings.Repeat("x", 24): 1, strings.Repeat(".", 24): 1, "x" + strings.Repeat(".", 23): 24, strings.Repeat("x.", 12): 2,
		strings.Repeat("x..", 8): 3, strings.Repeat(".xx.", 6): 4, strings.Repeat("xx.x..", 4): 6, strings.Repeat("x..x..x.", 3): 8,
		strings.Repeat("x..........x", 2): 12, strings.Repeat("x", 23) + ".": 24, strings.Repeat("x.x.x...", 3): 8, strings.Repeat("x", 23): 1,
	} {
		r := rhythmOfText(text)
		sameInt(t, fmt.Sprintf("PeriodOf(%q)", text), impl.PeriodOf(r), want)
		isBool(t, fmt.Sprintf("IsPeriodic(%q)", text), impl.IsPeriodic(r), want < len(text))
	}
}

func isBool(t *testing.T, label string, got bool, want bool) {
	t.Helper()
	if got != want {
		t.Errorf("%s = %t, want %t", label, got, want)
	}
}

// compared checks the three functions of two rhythms against texts.
func compared(t *testing.T, a string, b string) {
	t.Helper()
	first, second := rhythmOfText(a), rhythmOfText(b)
	k := slices.Index(turnedTexts(a), b)
	sameInt(t, fmt.Sprintf("RotationTo(%q, %q)", a, b), impl.RotationTo(first, second), k)
	isBool(t, fmt.Sprintf("AreRotations(%q, %q)", a, b), impl.AreRotations(first, second), k >= 0)
	isBool(t, fmt.Sprintf("AreForms(%q, %q)", a, b), impl.AreForms(first, second), slices.Contains(formTexts(a), b))
}

func TestRotationsAndFormsOfAllPairs(t *testing.T) {
	var texts []string
	for size := 1; size <= 6; size++ {
		for _, r := range allRhythmsOf(size) {
			texts = append(texts, textOf(r))
		}
	}
	for _, a := range texts {
		for _, b := range texts {
			compared(t, a, b)
		}
	}
}

func TestRotationsAndFormsOfLongRhythms(t *testing.T) {
	for _, r := range rhythmsForForms() {
		text := textOf(r)
		for k := range len(text) {
			compared(t, text, turnedText(text, k))
			compared(t, text, turnedText(mirroredText(text), k))
		}
		// One beat more or less, or one on another pulse.
		other := strings.Map(func(c rune) rune { return 'x' + '.' - c }, text[:1])
		compared(t, text, other+text[1:])
		compared(t, text, text[1:]+other)
		compared(t, text, text+".")
		compared(t, text+".", text)
	}
}

func TestRotationsAndFormsOfPairs(t *testing.T) {
	const none = -1
	dots := func(n int) string { return strings.Repeat(".", n) }
	for _, c := range []struct {
		a     string
		b     string
		k     int
		forms bool
	}{
		{"x..x..x.", "x..x..x.", 0, true}, {"x..x..x.", ".x..x..x", 1, true}, {"x..x..x.", "x.x..x..", 2, true}, {"x..x..x.", "..x..x.x", 7, true},
		{"x.x.", "x.x.", 0, true}, {"x.x.", ".x.x", 1, true}, {".x.x", "x.x.", 1, true}, {"x..x..", ".x..x.", 1, true}, {"x..x..", "..x..x", 2, true},
		{"xx.x....", ".xx.x...", 1, true}, {".xx.x...", "xx.x....", 7, true}, {"xx.x....", "x.x....x", 7, true},
		// Forms, but no rotations of each other.
		{"xx.x....", "x.xx....", none, true}, {"x.xx....", "xx.x....", none, true}, {"xx.x....", "x....x.x", none, true}, {"xx.x..", "x.xx..", none, true}, {"xx.x....", "...x.xx.", none, true},
		{"xx.x" + dots(20), "x.xx" + dots(20), none, true}, {"xx.x" + dots(20), dots(20) + "x.xx", none, true},
		// As many beats, but no forms; the second two have the same intervals.
		{"xxx.....", "xx.x....", none, false}, {"x.x.", "xx..", none, false}, {"xx.x...x", "x.x.xx..", none, false}, {"xx..x.x.", "xxx..x..", none, false},
		// Different numbers of beats.
		{"x..x..x.", "x..x....", none, false}, {"....", "x...", none, false}, {"x...", "....", none, false}, {"xxxx", "xxx.", none, false}, {".", "x", none, false}, {"x", ".", none, false},
		// Different Sizes.
		{"x", "x.", none, false}, {"x..x..x.", "x", none, false}, {"x.x.", "x.", none, false}, {"x.", "x.x.", none, false}, {".", "..", none, false}, {"xx", "xxx", none, false},
		{"....", ".....", none, false}, {"xx.x....", "xx.x...", none, false}, {dots(24), dots(23), none, false}, {"xx.x" + dots(20), "xx.x" + dots(19), none, false},
		{"x", "x", 0, true}, {".", ".", 0, true}, {"x.", ".x", 1, true}, {"xx", "xx", 0, true},
		{dots(24), dots(24), 0, true}, {"x" + dots(23), dots(23) + "x", 23, true}, {dots(23) + "x", "x" + dots(23), 1, true}, {"x" + dots(23), dots(12) + "x" + dots(11), 12, true},
		{strings.Repeat("x", 24), strings.Repeat("x", 24), 0, true}, {strings.Repeat("x.", 12), strings.Repeat(".x", 12), 1, true}, {strings.Repeat("x..", 8), strings.Repeat("..x", 8), 2, true},
	} {
		a, b := rhythmOfText(c.a), rhythmOfText(c.b)
		sameInt(t, fmt.Sprintf("RotationTo(%q, %q)", c.a, c.b), impl.RotationTo(a, b), c.k)
		isBool(t, fmt.Sprintf("AreRotations(%q, %q)", c.a, c.b), impl.AreRotations(a, b), c.k != none)
		isBool(t, fmt.Sprintf("AreForms(%q, %q)", c.a, c.b), impl.AreForms(a, b), c.forms)
	}
}

// TestEmptyListsOfBeats holds a nil list of beats against an empty one, and against one with memory behind it.
func TestEmptyListsOfBeats(t *testing.T) {
	for size := 1; size <= 24; size++ {
		list := []impl.Rhythm{{Size: size}, {Size: size, Beats: []int{}}, {Size: size, Beats: []int{0, 0, 7}[:0]}}
		for _, a := range list {
			for _, b := range list {
				sameInt(t, fmt.Sprintf("RotationTo without beats and Size %d", size), impl.RotationTo(a, b), 0)
				isBool(t, fmt.Sprintf("AreRotations without beats and Size %d", size), impl.AreRotations(a, b), true)
				isBool(t, fmt.Sprintf("AreForms without beats and Size %d", size), impl.AreForms(a, b), true)
			}
			isBool(t, fmt.Sprintf("IsLeastRotation without beats and Size %d", size), impl.IsLeastRotation(a), true)
			sameInt(t, fmt.Sprintf("PeriodOf without beats and Size %d", size), impl.PeriodOf(a), 1)
			sameInt(t, fmt.Sprintf("the axes without beats and Size %d", size), len(impl.AxesOf(a)), size)
		}
	}
}

func TestAxesOf(t *testing.T) {
	for _, r := range rhythmsForForms() {
		text := textOf(r)
		want := textAxes(text)
		sameInts(t, fmt.Sprintf("AxesOf(%q)", text), impl.AxesOf(r), want)
		isBool(t, fmt.Sprintf("IsMirrored(%q)", text), impl.IsMirrored(r), len(want) > 0)
	}
	for text, want := range map[string][]int{
		"x..x..x.": {6}, "x.x..x..": {2}, ".x..x..x": {0}, "x...x...": {0, 4}, ".x...x..": {2, 6}, "x.x.": {0, 2}, ".x.x": {0, 2}, "xx.xx.": {1, 4},
		// The axes of these lie between two pulses.
		"xx......": {1}, "x......x": {7}, ".xx.....": {3}, "xx..xx..": {1, 5}, "x..x": {3}, "xx": {0, 1},
		// These are not their own mirrors.
		"xx.x....": nil, "x.xx....": nil, "xx.x..": nil, "xx.xxx.x.": nil, "xx.x" + strings.Repeat(".", 20): nil, strings.Repeat("xx.x........", 2): nil,
		"x": {0}, ".": {0}, "..": {0, 1}, "x.": {0}, ".x": {0}, "x..": {0}, ".x.": {2}, "..x": {1}, "xx.": {1}, "xxx": {0, 1, 2}, "...": {0, 1, 2},
		"x" + strings.Repeat(".", 23): {0}, strings.Repeat(".", 23) + "x": {22}, strings.Repeat(".", 12) + "x" + strings.Repeat(".", 11): {0},
		strings.Repeat("x.", 12): {0, 2, 4, 6, 8, 10, 12, 14, 16, 18, 20, 22}, strings.Repeat("x.....", 4): {0, 6, 12, 18},
		strings.Repeat("x", 24): numbersUpTo(24), strings.Repeat(".", 24): numbersUpTo(24),
	} {
		r := rhythmOfText(text)
		sameInts(t, fmt.Sprintf("AxesOf(%q)", text), impl.AxesOf(r), want)
		isBool(t, fmt.Sprintf("IsMirrored(%q)", text), impl.IsMirrored(r), len(want) > 0)
	}
}

func numbersUpTo(n int) []int {
	var list []int
	for i := range n {
		list = append(list, i)
	}
	return list
}

func TestFormsOfOneBeat(t *testing.T) {
	for size := 1; size <= 24; size++ {
		for p := range size {
			r := rhythmOfMask(size, 1<<p)
			sameInts(t, fmt.Sprintf("AxesOf(%v)", r), impl.AxesOf(r), []int{2 * p % size})
			sameInt(t, fmt.Sprintf("PeriodOf(%v)", r), impl.PeriodOf(r), size)
			sameInt(t, fmt.Sprintf("RotationTo from pulse 0 to %v", r), impl.RotationTo(rhythmOfMask(size, 1), r), p)
			isBool(t, fmt.Sprintf("IsLeastRotation(%v)", r), impl.IsLeastRotation(r), p == 0)
			sameInt(t, fmt.Sprintf("the rotations of %v", r), len(impl.RotationsOf(r)), size)
			got, ok := impl.LeastForm(r)
			isRhythm(t, fmt.Sprintf("LeastForm(%v)", r), got, ok, rhythmOfMask(size, 1))
		}
	}
}

func textsOf(list []impl.Rhythm) []string {
	var texts []string
	for _, r := range list {
		if !impl.RhythmOk(r) {
			texts = append(texts, "not valid: "+shortName(r))
		} else {
			texts = append(texts, textOf(r))
		}
	}
	return texts
}

func sameList(t *testing.T, label string, got []impl.Rhythm, want []string) {
	t.Helper()
	if texts := textsOf(got); !slices.Equal(texts, want) {
		t.Errorf("%s = %q, want %q", label, texts, want)
	}
}

func TestRotationsOf(t *testing.T) {
	for _, r := range rhythmsForForms() {
		text := textOf(r)
		var want []string
		for _, turned := range turnedTexts(text) {
			if !slices.Contains(want, turned) {
				want = append(want, turned)
			}
		}
		sameList(t, fmt.Sprintf("RotationsOf(%q)", text), impl.RotationsOf(r), want)
	}
	for text, want := range map[string][]string{
		"x.x.":                               {"x.x.", ".x.x"},
		".x.x":                               {".x.x", "x.x."},
		"xx..":                               {"xx..", ".xx.", "..xx", "x..x"},
		"x..x..":                             {"x..x..", ".x..x.", "..x..x"},
		"x..":                                {"x..", ".x.", "..x"},
		"x":                                  {"x"},
		".":                                  {"."},
		"....":                               {"...."},
		"xxx":                                {"xxx"},
		"xx.":                                {"xx.", ".xx", "x.x"},
		strings.Repeat("x", 24):              {strings.Repeat("x", 24)},
		strings.Repeat(".", 24):              {strings.Repeat(".", 24)},
		strings.Repeat("xx.", 8):             {strings.Repeat("xx.", 8), strings.Repeat(".xx", 8), strings.Repeat("x.x", 8)},
		"x" + strings.Repeat(".", 23):        turnedTexts("x" + strings.Repeat(".", 23)),
		strings.Repeat(".", 10) + "xx.x....": turnedTexts(strings.Repeat(".", 10) + "xx.x...."),
	} {
		sameList(t, fmt.Sprintf("RotationsOf(%q)", text), impl.RotationsOf(rhythmOfText(text)), want)
	}
}

func TestIsLeastRotation(t *testing.T) {
	for _, r := range rhythmsForForms() {
		text := textOf(r)
		isBool(t, fmt.Sprintf("IsLeastRotation(%q)", text), impl.IsLeastRotation(r), text == slices.Max(turnedTexts(text)))
	}
	for text, want := range map[string]bool{
		"x.x..x..": true, "x..x..x.": false, "x..x.x..": false, "x.x.": true, ".x.x": false, "xx.x....": true, "x.xx....": false, "xx....x.": true, "x......x": false, "xx......": true,
		"x": true, ".": true, "..": true, "xx": true, "x.": true, ".x": false,
		strings.Repeat("x", 24): true, strings.Repeat(".", 24): true, "x" + strings.Repeat(".", 23): true, strings.Repeat(".", 23) + "x": false, ".x" + strings.Repeat(".", 22): false,
	} {
		isBool(t, fmt.Sprintf("IsLeastRotation(%q)", text), impl.IsLeastRotation(rhythmOfText(text)), want)
	}
}

func TestOneOfTheRotationsIsTheLeast(t *testing.T) {
	for _, r := range rhythmsForForms() {
		least := 0
		for _, turned := range impl.RotationsOf(r) {
			if impl.IsLeastRotation(turned) {
				least++
			}
		}
		sameInt(t, fmt.Sprintf("the number of least ones among the rotations of %v", r), least, 1)
	}
}

// TestFormsOfInvalidRhythms has the functions of one rhythm; those of two are below.
func TestFormsOfInvalidRhythms(t *testing.T) {
	for _, bad := range invalidRhythms() {
		r, memory := withSpare(bad)
		before := slices.Clone(memory)
		name := shortName(bad)
		got, ok := impl.LeastRotation(r)
		isNoRhythm(t, "LeastRotation "+name, got, ok)
		got, ok = impl.LeastForm(r)
		isNoRhythm(t, "LeastForm "+name, got, ok)
		sameInt(t, "PeriodOf "+name, impl.PeriodOf(r), 0)
		isBool(t, "IsPeriodic "+name, impl.IsPeriodic(r), false)
		sameInts(t, "AxesOf "+name, impl.AxesOf(r), nil)
		isBool(t, "IsMirrored "+name, impl.IsMirrored(r), false)
		sameList(t, "RotationsOf "+name, impl.RotationsOf(r), nil)
		isBool(t, "IsLeastRotation "+name, impl.IsLeastRotation(r), false)
		if !slices.Equal(memory, before) {
			t.Errorf("a function of rotations or mirrors changes %s", name)
		}
	}
}

func TestInvalidRhythmsAreNoFormsOfOthers(t *testing.T) {
	check := func(a impl.Rhythm, b impl.Rhythm) {
		t.Helper()
		label := shortName(a) + " and " + shortName(b)
		sameInt(t, "RotationTo of "+label, impl.RotationTo(a, b), -1)
		isBool(t, "AreRotations of "+label, impl.AreRotations(a, b), false)
		isBool(t, "AreForms of "+label, impl.AreForms(a, b), false)
	}
	for _, bad := range invalidRhythms() {
		for _, good := range []impl.Rhythm{rhythmOfMask(1, 0), rhythmOfMask(1, 1), rhythmOfMask(8, 0), rhythmOfMask(8, 1), rhythmOfMask(8, 73), rhythmOfMask(24, 0), rhythmOfMask(24, -1)} {
			check(bad, good)
			check(good, bad)
		}
		for _, other := range invalidRhythms() {
			check(bad, other)
		}
		check(bad, bad)
	}
}

// TestBeatsOutOfTheBarAreNoBeats has rhythms that are not valid, with the same remainders as those of a valid one.
func TestBeatsOutOfTheBarAreNoBeats(t *testing.T) {
	good := rhythmOfText("x..x..x.")
	for _, beats := range [][]int{{-2, 0, 3}, {3, 6, 8}, {0, 3, 14}, {0, 3, 6, 8}, {0, 6, 3}, {0, 3, 3, 6}, {-8, 3, 6}} {
		bad := impl.Rhythm{Size: 8, Beats: beats}
		sameInt(t, fmt.Sprintf("RotationTo from %v", bad), impl.RotationTo(bad, good), -1)
		sameInt(t, fmt.Sprintf("RotationTo to %v", bad), impl.RotationTo(good, bad), -1)
		isBool(t, fmt.Sprintf("AreForms(%v, %v)", bad, good), impl.AreForms(bad, good), false)
		isBool(t, fmt.Sprintf("AreForms(%v, %v)", good, bad), impl.AreForms(good, bad), false)
		sameInt(t, fmt.Sprintf("PeriodOf(%v)", bad), impl.PeriodOf(bad), 0)
		isBool(t, fmt.Sprintf("IsMirrored(%v)", bad), impl.IsMirrored(bad), false)
	}
}

// textsForMemory has rhythms that are what the functions return, so that a function could return its argument.
func textsForMemory() []string {
	return append(someTexts(), "x.x..x..", "xx.x....", "x.xx....", "xx....x.", "x.x.", ".x.x", strings.Repeat("xx.x........", 2))
}

func TestReturnedLeastRhythmsAreNew(t *testing.T) {
	for name, made := range map[string]func(impl.Rhythm) (impl.Rhythm, bool){"LeastRotation": impl.LeastRotation, "LeastForm": impl.LeastForm} {
		for _, text := range textsForMemory() {
			r, memory := withSpare(rhythmOfText(text))
			before := slices.Clone(memory)
			first, ok := made(r)
			kept := impl.Rhythm{Size: first.Size, Beats: slices.Clone(first.Beats)}
			second, _ := made(r)
			spoil(second)
			sameInts(t, fmt.Sprintf("the beats of %q after %s", text, name), memory, before)
			isRhythm(t, fmt.Sprintf("%s of %q after another result was changed", name, text), first, ok, kept)
			third, ok := made(r)
			isRhythm(t, fmt.Sprintf("%s of %q once more", name, text), third, ok, kept)
		}
	}
}

func TestReturnedAxesAreNew(t *testing.T) {
	for _, text := range textsForMemory() {
		r, memory := withSpare(rhythmOfText(text))
		before := slices.Clone(memory)
		first := impl.AxesOf(r)
		kept := slices.Clone(first)
		spoil(impl.Rhythm{Beats: impl.AxesOf(r)})
		sameInts(t, fmt.Sprintf("the beats of %q after AxesOf", text), memory, before)
		sameInts(t, fmt.Sprintf("AxesOf(%q) after another result was changed", text), first, kept)
		sameInts(t, fmt.Sprintf("AxesOf(%q) once more", text), impl.AxesOf(r), kept)
	}
}

// TestReturnedRotationsAreNew overwrites each rhythm of a list; all the others must keep their beats.
func TestReturnedRotationsAreNew(t *testing.T) {
	for _, text := range textsForMemory() {
		r, memory := withSpare(rhythmOfText(text))
		before := slices.Clone(memory)
		kept := impl.RotationsOf(r)
		want := textsOf(kept)
		for i := range want {
			list := impl.RotationsOf(r)
			spoil(list[i])
			others := slices.Concat(list[:i], list[i+1:])
			sameList(t, fmt.Sprintf("RotationsOf(%q) but the one with the index %d, which was changed", text, i), others, slices.Concat(want[:i], want[i+1:]))
			clear(list[:cap(list)])
		}
		sameInts(t, fmt.Sprintf("the beats of %q after RotationsOf", text), memory, before)
		sameList(t, fmt.Sprintf("RotationsOf(%q) after other results were changed", text), kept, want)
		sameList(t, fmt.Sprintf("RotationsOf(%q) once more", text), impl.RotationsOf(r), want)
	}
}

func TestAskingForFormsKeepsRhythms(t *testing.T) {
	for _, text := range textsForMemory() {
		for _, other := range textsForMemory() {
			a, memoryA := withSpare(rhythmOfText(text))
			b, memoryB := withSpare(rhythmOfText(other))
			beforeA, beforeB := slices.Clone(memoryA), slices.Clone(memoryB)
			impl.RotationTo(a, b)
			impl.AreRotations(a, b)
			impl.AreForms(a, b)
			impl.PeriodOf(a)
			impl.IsPeriodic(a)
			impl.IsMirrored(a)
			impl.IsLeastRotation(a)
			if !slices.Equal(memoryA, beforeA) || !slices.Equal(memoryB, beforeB) {
				t.Errorf("questions about the forms change the beats of %q to %v or of %q to %v", text, memoryA, other, memoryB)
			}
		}
	}
}

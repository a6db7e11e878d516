package tests

import (
	"fmt"
	"slices"
	"strings"
	"testing"

	"loop.example/g03204/impl"
)

// The expected values of this file are made of texts: a walk on the pulses makes a chain, and a text that is found in another one, written twice, is a rotation of it.

// generatedText walks g pulses after each beat; it is empty if the walk comes back to a beat.
func generatedText(n int, k int, g int) string {
	text := []byte(bar(n))
	place := 0
	for range k {
		if text[place] == 'x' {
			return ""
		}
		text[place] = 'x'
		for range g {
			place++
			if place == n {
				place = 0
			}
		}
	}
	return string(text)
}

func textGenerators(text string) []int {
	var list []int
	for g := 1; g < len(text); g++ {
		generated := generatedText(len(text), strings.Count(text, "x"), g)
		if generated != "" && strings.Contains(text+text, generated) {
			list = append(list, g)
		}
	}
	return list
}

// textChain tries each beat as the first one, from the least one on. Only a closed chain has several first beats.
func textChain(text string, g int) []int {
	if !slices.Contains(textGenerators(text), g) {
		return nil
	}
	places := placesOf(text)
	for _, first := range places {
		var chain []int
		for i := range places {
			chain = append(chain, (first+i*g)%len(text))
		}
		if slices.Equal(slices.Sorted(slices.Values(chain)), places) {
			return chain
		}
	}
	return nil
}

// textExtended is empty if the chain cannot be extended.
func textExtended(text string, g int) string {
	chain := textChain(text, g)
	if len(chain) == 0 {
		return ""
	}
	next := (chain[len(chain)-1] + g) % len(text)
	if text[next] == 'x' {
		return ""
	}
	return text[:next] + "x" + text[next+1:]
}

func textSizes(text string) []int { return differentNumbers(walkedSteps(rhythmOfText(text))) }

func textHasTwoSizes(text string) bool {
	r := rhythmOfText(text)
	for k := 1; k < len(r.Beats); k++ {
		if len(differentNumbers(walkedSpans(r, k))) != 2 {
			return false
		}
	}
	return len(r.Beats) > 1
}

func textIsSumOfSizes(text string) bool {
	sizes := textSizes(text)
	return len(sizes) < 3 || len(sizes) == 3 && sizes[2]-sizes[1] == sizes[0]
}

// generatedTexts has each generated rhythm of up to 24 pulses once; with its rotations if they are asked for.
func generatedTexts(turned bool) []string {
	found := map[string]bool{}
	for k, n := range beatsAndSizes {
		for g := 1; g <= n; g++ {
			if text := generatedText(n, k, g); text != "" {
				found[text] = true
			}
		}
	}
	var list []string
	for text := range found {
		list = append(list, text)
		if turned {
			list = append(list, turnedTexts(text)...)
		}
	}
	slices.Sort(list)
	return slices.Compact(list)
}

// textsForChains has rhythms with chains and without, among them all rotations of the shorter generated ones.
func textsForChains() []string {
	list := append(textsOf(rhythmsForForms()), generatedTexts(false)...)
	for _, text := range generatedTexts(true) {
		if len(text) <= 14 {
			list = append(list, text)
		}
	}
	for size := 9; size <= 11; size++ {
		list = append(list, textsOfSize(size)...)
	}
	slices.Sort(list)
	return slices.Compact(list)
}

// numbersAround has numbers from below 0 to above n, and some that are far away.
func numbersAround(n int) []int {
	list := append(extremes(), -1000, -n-1, -n, -1, 2*n, 2*n+1, 1000)
	for i := range n + 3 {
		list = append(list, i)
	}
	return list
}

func TestGeneratedRhythmByAllPulses(t *testing.T) {
	for n := 1; n <= 24; n++ {
		for _, k := range numbersAround(n) {
			for _, g := range numbersAround(n) {
				got, ok := impl.GeneratedRhythm(n, k, g)
				want := ""
				if 0 <= k && k <= n && 1 <= g && g <= n {
					want = generatedText(n, k, g)
				}
				label := fmt.Sprintf("GeneratedRhythm(%d, %d, %d)", n, k, g)
				if want == "" {
					isNoRhythm(t, label, got, ok)
				} else {
					isRhythm(t, label, got, ok, rhythmOfText(want))
				}
			}
		}
	}
}

func TestGeneratedRhythm(t *testing.T) {
	for _, c := range []struct {
		n    int
		k    int
		g    int
		want string
	}{
		{1, 0, 1, "."}, {1, 1, 1, "x"}, {1, 2, 1, ""}, {1, 1, 2, ""}, {1, 0, 2, ""}, {1, 0, 0, ""}, {1, 1, 0, ""},
		{2, 0, 1, ".."}, {2, 0, 2, ".."}, {2, 1, 1, "x."}, {2, 1, 2, "x."}, {2, 2, 1, "xx"}, {2, 2, 2, ""}, {2, 3, 1, ""}, {2, 1, 3, ""},
		{3, 0, 3, "..."}, {3, 1, 2, "x.."}, {3, 2, 1, "xx."}, {3, 2, 2, "x.x"}, {3, 2, 3, ""}, {3, 3, 1, "xxx"}, {3, 3, 2, "xxx"}, {3, 3, 3, ""},
		// g has no divisor with n other than 1, so that there are rhythms up to n beats.
		{8, 3, 1, "xxx....."}, {8, 3, 7, "x.....xx"}, {8, 3, 3, "x..x..x."}, {8, 3, 5, "x.x..x.."}, {8, 7, 3, "xxxxx.xx"}, {8, 8, 3, "xxxxxxxx"}, {8, 9, 3, ""}, {12, 5, 7, "x.x.x..x.x.."}, {12, 7, 7, "x.x.x.xx.x.x"}, {12, 7, 5, "xx.x.xx.x.x."}, {12, 11, 5, "xxxxxxx.xxxx"}, {12, 12, 5, full(12)},
		{7, 4, 3, "x.xx..x"}, {7, 3, 2, "x.x.x.."}, {7, 3, 6, "x....xx"}, {7, 6, 4, "xxx.xxx"}, {7, 7, 5, full(7)}, {13, 4, 5, bar(13, 0, 2, 5, 10)}, {23, 3, 22, bar(23, 0, 21, 22)}, {23, 22, 2, full(21) + ".x"}, {23, 23, 9, full(23)},
		// g has such a divisor: as many beats as remainders, one below and one above.
		{8, 3, 2, "x.x.x..."}, {8, 4, 2, "x.x.x.x."}, {8, 5, 2, ""}, {8, 3, 6, "x...x.x."}, {8, 4, 6, "x.x.x.x."}, {8, 5, 6, ""}, {8, 1, 4, "x......."}, {8, 2, 4, "x...x..."}, {8, 3, 4, ""}, {6, 1, 3, "x....."}, {6, 2, 3, "x..x.."}, {6, 3, 3, ""}, {6, 4, 3, ""}, {9, 2, 6, "x.....x.."}, {9, 3, 6, "x..x..x.."}, {9, 4, 6, ""}, {12, 2, 8, "x.......x..."}, {12, 3, 8, "x...x...x..."}, {12, 4, 8, ""}, {12, 3, 9, "x.....x..x.."}, {12, 4, 9, "x..x..x..x.."}, {12, 5, 9, ""},
		// g is n: there is one remainder.
		{8, 0, 8, "........"}, {8, 1, 8, "x......."}, {8, 2, 8, ""}, {8, 8, 8, ""}, {8, 1, 9, ""}, {8, 0, 9, ""}, {7, 1, 7, "x......"}, {7, 2, 7, ""},
		{24, 0, 1, bar(24)}, {24, 1, 23, bar(24, 0)}, {24, 2, 12, bar(24, 0, 12)}, {24, 3, 12, ""}, {24, 2, 23, bar(24, 0, 23)}, {24, 5, 7, bar(24, 0, 4, 7, 14, 21)}, {24, 23, 23, "x." + full(22)}, {24, 24, 23, full(24)}, {24, 24, 1, full(24)}, {24, 23, 24, ""}, {24, 1, 24, bar(24, 0)}, {24, 0, 24, bar(24)}, {24, 2, 24, ""}, {24, 11, 10, bar(24, 0, 2, 4, 6, 8, 10, 12, 16, 18, 20, 22)}, {24, 12, 10, strings.Repeat("x.", 12)}, {24, 13, 10, ""}, {24, 1, 25, ""}, {24, 25, 1, ""},
	} {
		got, ok := impl.GeneratedRhythm(c.n, c.k, c.g)
		if textOf(got) != c.want || ok != (c.want != "") {
			t.Errorf("GeneratedRhythm(%d, %d, %d) = %v, %t, want %q", c.n, c.k, c.g, got, ok, c.want)
		}
	}
}

func TestNoGeneratedRhythm(t *testing.T) {
	for _, c := range noBeatsAndSizes() {
		k, n := c[0], c[1]
		for _, g := range append(extremes(), -1, 0, 1, 2, 7, 23, 24, 25, k, n, n-1) {
			got, ok := impl.GeneratedRhythm(n, k, g)
			isNoRhythm(t, fmt.Sprintf("GeneratedRhythm(%d, %d, %d)", n, k, g), got, ok)
		}
	}
}

func TestGeneratorsOfManyRhythms(t *testing.T) {
	for _, text := range textsForChains() {
		want := textGenerators(text)
		sameInts(t, fmt.Sprintf("GeneratorsOf(%q)", text), impl.GeneratorsOf(rhythmOfText(text)), want)
		isBool(t, fmt.Sprintf("IsGenerated(%q)", text), impl.IsGenerated(rhythmOfText(text)), len(want) > 0)
	}
}

// numbersFrom1 has the numbers up to n.
func numbersFrom1(n int) []int { return numbersUpTo(n)[1:] }

func TestGeneratorsOf(t *testing.T) {
	for text, want := range map[string][]int{
		// There is no g from 1 up to 1.
		".": nil, "x": nil,
		// Each g generates the rhythms with no beats and with one.
		"..": {1}, "x.": {1}, ".x": {1}, "...": {1, 2}, ".x.": {1, 2}, "....": {1, 2, 3}, "...x": {1, 2, 3}, "........": {1, 2, 3, 4, 5, 6, 7}, "...x....": {1, 2, 3, 4, 5, 6, 7}, bar(24): numbersFrom1(24), bar(24, 23): numbersFrom1(24),
		// Beats on every pulse, and on all but one, have the g without a divisor with Size other than 1.
		"xx": {1}, "xxx": {1, 2}, "xx.": {1, 2}, "x.x": {1, 2}, "xxxx": {1, 3}, "x.xx": {1, 3}, "xxxxx": {1, 2, 3, 4}, "x.xxx": {1, 2, 3, 4}, "xxxxxx": {1, 5}, "xxxxx.": {1, 5}, "xxxxxxxx": {1, 3, 5, 7}, "xxxxxxx.": {1, 3, 5, 7}, full(23): numbersFrom1(23), full(24): {1, 5, 7, 11, 13, 17, 19, 23}, "." + full(23): {1, 5, 7, 11, 13, 17, 19, 23},
		// Two beats have the number of pulses between them and its opposite.
		"xx......": {1, 7}, "x......x": {1, 7}, "x.x.....": {2, 6}, "..x..x..": {3, 5}, "x...x...": {4}, "...x...x": {4}, "x..x": {1, 3}, "x.x.": {2}, ".x.x": {2}, bar(24, 0, 12): {12}, bar(24, 3, 10): {7, 17},
		// One generator and its opposite, for rhythms from pulse 0 on and for rotations of such ones.
		"xxx.....": {1, 7}, "...xxx..": {1, 7}, "xx....xx": {1, 7}, "x..x..x.": {3, 5}, "x.x..x..": {3, 5}, ".x..x..x": {3, 5}, "x..x.x..": {3, 5}, "x.xx.x..": {3, 5}, "x.xxxx.x": {3, 5}, "xx.xx.x.": {3, 5}, "x.x.x...": {2, 6}, ".x...x.x": {2, 6}, "x...x.x...": {4, 6}, "x.x.x.x.": {2, 6}, "x.x.x.": {2, 4}, "x..x..": {3}, "..x..x..x": {3, 6}, "x...x...x...": {4, 8}, "x.x.x..x.x..": {5, 7}, "x.x.xx.x.x.x": {5, 7}, "xxxx..": {1, 5}, bar(24, 0, 4, 7, 14, 21): {7, 17}, bar(24, 1, 5, 8, 15, 22): {7, 17}, strings.Repeat(".x", 12): {2, 10, 14, 22},
		// Two generators and their opposites that have divisors with Size.
		"x.x.x.x.x.": {2, 4, 6, 8}, ".x.x.x.x.x": {2, 4, 6, 8}, "x.x.x.x...": {2, 4, 6, 8}, "x..x..x..x..x..": {3, 6, 9, 12},
		// No generator: too many different steps, several closed chains, or a closed one and other beats.
		"xx.x....": nil, "xx.x..": nil, "xx.xx.": nil, "x..xx.": nil, "xx..xx..": nil, "xx.xx...": nil, ".x.xxx": nil, "x.xxx.": nil, "xxx.x.": nil, "x.x..x.x..": nil, "xxx.xxx.": nil, "xx.xx.xx.xx.": nil, "x.xxx.x.": nil, "xxxx.xxx....": nil, bar(24, 0, 1, 12, 13): nil, bar(24, 0, 1, 3): nil,
	} {
		r := rhythmOfText(text)
		sameInts(t, fmt.Sprintf("GeneratorsOf(%q)", text), impl.GeneratorsOf(r), want)
		isBool(t, fmt.Sprintf("IsGenerated(%q)", text), impl.IsGenerated(r), len(want) > 0)
	}
}

// TestGeneratorsMakeRotations asks GeneratedRhythm and the functions of chapter 5.
func TestGeneratorsMakeRotations(t *testing.T) {
	for _, text := range textsForChains() {
		r := rhythmOfText(text)
		generators := impl.GeneratorsOf(r)
		for g := 1; g < r.Size; g++ {
			made, ok := impl.GeneratedRhythm(r.Size, len(r.Beats), g)
			isBool(t, fmt.Sprintf("%d is in GeneratorsOf(%q)", g, text), slices.Contains(generators, g), ok && impl.AreRotations(made, r))
		}
	}
}

// TestGeneratorsComeWithTheirOpposites: a chain is a chain by Size - g as well, from its end to its beginning.
func TestGeneratorsComeWithTheirOpposites(t *testing.T) {
	for _, text := range textsForChains() {
		generators := impl.GeneratorsOf(rhythmOfText(text))
		var opposites []int
		for _, g := range slices.Backward(generators) {
			opposites = append(opposites, len(text)-g)
		}
		sameInts(t, fmt.Sprintf("Size minus each of GeneratorsOf(%q)", text), opposites, generators)
	}
}

func TestChainsOfManyRhythms(t *testing.T) {
	for _, text := range textsForChains() {
		r := rhythmOfText(text)
		for g := 1; g < r.Size; g++ {
			sameInts(t, fmt.Sprintf("ChainOf(%q, %d)", text, g), impl.ChainOf(r, g), textChain(text, g))
			isExtended(t, text, g, textExtended(text, g))
		}
	}
}

// isExtended checks ExtendChain; an empty text is for none.
func isExtended(t *testing.T, text string, g int, want string) {
	t.Helper()
	got, ok := impl.ExtendChain(rhythmOfText(text), g)
	label := fmt.Sprintf("ExtendChain(%q, %d)", text, g)
	if want == "" {
		isNoRhythm(t, label, got, ok)
	} else {
		isRhythm(t, label, got, ok, rhythmOfText(want))
	}
}

func TestChains(t *testing.T) {
	for _, c := range []struct {
		text     string
		g        int
		chain    []int
		extended string
	}{
		// No beats, and one beat.
		{".", 1, nil, ""}, {"x", 1, nil, ""}, {"..", 1, nil, ""}, {"........", 3, nil, ""}, {bar(24), 23, nil, ""}, {"x.", 1, []int{0}, "xx"}, {".x", 1, []int{1}, "xx"}, {"x..", 1, []int{0}, "xx."}, {"x..", 2, []int{0}, "x.x"}, {".x.", 2, []int{1}, "xx."}, {"...x....", 1, []int{3}, "...xx..."}, {"...x....", 4, []int{3}, "...x...x"}, {"...x....", 7, []int{3}, "..xx...."}, {bar(24, 23), 1, []int{23}, bar(24, 0, 23)}, {bar(24, 23), 23, []int{23}, bar(24, 22, 23)},
		// Two beats.
		{"xx", 1, []int{0, 1}, ""}, {"xx.", 1, []int{0, 1}, "xxx"}, {"xx.", 2, []int{1, 0}, "xxx"}, {"x.x", 1, []int{2, 0}, "xxx"}, {"x..x", 1, []int{3, 0}, "xx.x"}, {"x..x", 3, []int{0, 3}, "x.xx"}, {"x.x.", 2, []int{0, 2}, ""}, {".x.x", 2, []int{1, 3}, ""}, {"x.x.", 1, nil, ""}, {"x.x.", 3, nil, ""}, {"x......x", 1, []int{7, 0}, "xx.....x"}, {"x......x", 7, []int{0, 7}, "x.....xx"}, {"..x..x..", 3, []int{2, 5}, "x.x..x.."}, {"..x..x..", 5, []int{5, 2}, "..x..x.x"}, {bar(24, 3, 10), 7, []int{3, 10}, bar(24, 3, 10, 17)}, {bar(24, 3, 10), 17, []int{10, 3}, bar(24, 3, 10, 20)}, {bar(24, 11, 23), 12, []int{11, 23}, ""},
		// A chain that begins on pulse 0.
		{"xxx.....", 1, []int{0, 1, 2}, "xxxx...."}, {"x..x..x.", 3, []int{0, 3, 6}, "xx.x..x."}, {"x.x.x..x.x..", 7, []int{0, 7, 2, 9, 4}, "x.x.x..x.x.x"}, {"xx.xx.x.", 3, []int{0, 3, 6, 1, 4}, "xx.xx.xx"},
		// One that begins behind a gap in the middle of the bar.
		{"...xxx..", 1, []int{3, 4, 5}, "...xxxx."}, {"...xxx..", 7, []int{5, 4, 3}, "..xxxx.."}, {"x..x..x.", 5, []int{6, 3, 0}, "x..x.xx."}, {"..x..x.x", 3, []int{7, 2, 5}, "x.x..x.x"}, {"..x..x.x", 5, []int{5, 2, 7}, "..x.xx.x"}, {"x.xxx", 1, []int{2, 3, 4, 0}, "xxxxx"}, {"x.xxx", 2, []int{3, 0, 2, 4}, "xxxxx"}, {"x.xxx", 3, []int{4, 2, 0, 3}, "xxxxx"}, {"x.xxx", 4, []int{0, 4, 3, 2}, "xxxxx"},
		// One that goes around the bar.
		{"xx....xx", 1, []int{6, 7, 0, 1}, "xxx...xx"}, {"xx....xx", 7, []int{1, 0, 7, 6}, "xx...xxx"}, {"x.x..x..", 3, []int{2, 5, 0}, "x.xx.x.."}, {"x.x.x..x.x..", 5, []int{4, 9, 2, 7, 0}, "x.x.xx.x.x.."}, {"x.x.xx.x.x.x", 5, []int{11, 4, 9, 2, 7, 0, 5}, "x.x.xx.x.xxx"}, {".x...x.x", 2, []int{5, 7, 1}, ".x.x.x.x"}, {".x...x.x", 6, []int{1, 7, 5}, ".x.x.x.x"}, {bar(24, 1, 5, 8, 15, 22), 7, []int{1, 8, 15, 22, 5}, bar(24, 1, 5, 8, 12, 15, 22)},
		// One beat is left.
		{"xxxxxxx.", 3, []int{2, 5, 0, 3, 6, 1, 4}, "xxxxxxxx"}, {".xxxxxxx", 7, []int{7, 6, 5, 4, 3, 2, 1}, "xxxxxxxx"}, {"x.x.x...", 2, []int{0, 2, 4}, "x.x.x.x."}, {"." + full(23), 1, numbersFrom1(24), full(24)},
		// A closed chain begins with its least beat.
		{"xxxxxxxx", 1, []int{0, 1, 2, 3, 4, 5, 6, 7}, ""}, {"xxxxxxxx", 3, []int{0, 3, 6, 1, 4, 7, 2, 5}, ""}, {"x.x.x.x.", 2, []int{0, 2, 4, 6}, ""}, {".x.x.x.x", 6, []int{1, 7, 5, 3}, ""}, {"..x..x..x", 3, []int{2, 5, 8}, ""}, {"..x..x..x", 6, []int{2, 8, 5}, ""}, {".x..x.", 3, []int{1, 4}, ""}, {"x.x.x.x.x.", 4, []int{0, 4, 8, 2, 6}, ""}, {"...x...x", 4, []int{3, 7}, ""}, {full(24), 23, []int{0, 23, 22, 21, 20, 19, 18, 17, 16, 15, 14, 13, 12, 11, 10, 9, 8, 7, 6, 5, 4, 3, 2, 1}, ""},
		// Several closed chains at once, or a closed one and other beats: g is no generator.
		{"xxxx", 2, nil, ""}, {"xx.xx.", 3, nil, ""}, {"xx..xx..", 4, nil, ""}, {"xxxxxxxx", 2, nil, ""}, {"xxxxxxxx", 4, nil, ""}, {"xxxxxx", 3, nil, ""}, {"x.xxx.", 2, nil, ""}, {"xxx.x.", 2, nil, ""}, {".xxx.x", 2, nil, ""}, {full(24), 12, nil, ""}, {strings.Repeat("xx.", 8), 3, nil, ""},
		// Several chains that are not closed: g is no generator.
		{"xx......", 2, nil, ""}, {"xx.xx...", 1, nil, ""}, {"xx.xx...", 3, nil, ""}, {"x.x.x..x.x..", 1, nil, ""}, {"x..x..x.", 2, nil, ""}, {"x..x..x.", 4, nil, ""}, {"xx.x....", 1, nil, ""}, {"xx.x....", 5, nil, ""},
		// These have the remainder of a generator.
		{"x..x..x.", -5, nil, ""}, {"x..x..x.", 11, nil, ""}, {"x..x..x.", -3, nil, ""}, {"x..x..x.", 13, nil, ""}, {"xx", 3, nil, ""}, {"x", 2, nil, ""}, {"x.......", 8, nil, ""}, {"x.......", 0, nil, ""}, {"........", 8, nil, ""},
	} {
		sameInts(t, fmt.Sprintf("ChainOf(%q, %d)", c.text, c.g), impl.ChainOf(rhythmOfText(c.text), c.g), c.chain)
		isExtended(t, c.text, c.g, c.extended)
	}
}

// TestNoChains has numbers that are not from 1 up to Size, among them some with the remainder of a generator.
func TestNoChains(t *testing.T) {
	for _, text := range generatedTexts(false) {
		r := rhythmOfText(text)
		others := append(extremes(), -1000, -2, -1, 0, r.Size, r.Size+1, 1000)
		for _, g := range impl.GeneratorsOf(r) {
			others = append(others, g-r.Size, g+r.Size, -g)
		}
		for _, g := range others {
			sameInts(t, fmt.Sprintf("ChainOf(%q, %d)", text, g), impl.ChainOf(r, g), nil)
			isExtended(t, text, g, "")
		}
	}
}

// TestChainsStepByStep adds beats to a single one until the chain is closed; each rhythm on the way is a generated one.
func TestChainsStepByStep(t *testing.T) {
	for n := 2; n <= 24; n++ {
		for g := 1; g < n; g++ {
			r, ok := impl.GeneratedRhythm(n, 1, g)
			for k := 1; ok; k++ {
				made, _ := impl.GeneratedRhythm(n, k, g)
				isRhythm(t, fmt.Sprintf("one of %d beats on %d pulses, extended by %d", k, n, g), r, ok, made)
				_, more := impl.GeneratedRhythm(n, k+1, g)
				r, ok = impl.ExtendChain(r, g)
				isBool(t, fmt.Sprintf("the chain of %d beats on %d pulses by %d can be extended", k, n, g), ok, more)
			}
		}
	}
}

func TestStepSizesOfManyRhythms(t *testing.T) {
	for _, text := range textsForChains() {
		r := rhythmOfText(text)
		isBool(t, fmt.Sprintf("HasTwoSizes(%q)", text), impl.HasTwoSizes(r), textHasTwoSizes(text))
		sameInt(t, fmt.Sprintf("CountSizes(%q)", text), impl.CountSizes(r), len(textSizes(text)))
		isBool(t, fmt.Sprintf("IsSumOfSizes(%q)", text), impl.IsSumOfSizes(r), textIsSumOfSizes(text))
	}
}

func TestHasTwoSizes(t *testing.T) {
	for text, want := range map[string]bool{
		// Fewer than two beats have no spans of less than the bar.
		".": false, "x": false, "..": false, "x.": false, ".x": false, "........": false, "...x....": false, bar(24): false, bar(24, 23): false,
		// Two beats have two steps, or one where they are Size / 2 apart.
		"xx": false, "xx.": true, "x.x": true, "x.x.": false, "x..x": true, "xx......": true, "x...x...": false, "..x..x..": true, bar(24, 0, 12): false, bar(24, 0, 11): true, bar(24, 0, 1): true, bar(23, 0, 11): true,
		// A beat on every pulse, on all but one, and equal steps.
		"xxx": false, "xxxxxxxx": false, full(24): false, "xxxxxxx.": true, "." + full(23): true, "x.x.x.x.": false, "x..x..x..": false,
		// All spans have two sizes.
		"x..x..x.": true, "x.x..x..": true, "xxx.....": true, "xx....xx": true, "x.x.x...": true, "x.x.x..x.x..": true, "x.x.xx.x.x.x": true, "xx.xx.x.": true, "xxxx..": true, "xx.x.xx.xx.x.": true, bar(24, 0, 2, 4, 6, 8, 10, 12, 16, 18, 20, 22): true,
		// There are two steps, but one span of two steps, or three of them.
		"xx.xx.": false, "xx..xx..": false, "x.x..x.x..": false, "x...xx...x": false, "xxx.x.": false, "x.xxx.": false, "x.xxx.x.": false, "xx.x.xx": false,
		// There are two spans of one step and of two steps, but one span of three steps, or three of them.
		"xxx.xxx.": false, "xxxx.xx.": false, "x.xxxx.x": false, "xxx.xx.xx": false,
		// There are two spans of one step, of two and of three steps, but one span of four steps, or three of them.
		"xxxx.xxxx.": false, "xxxxx.xxx.": false,
		// There are more steps.
		"xx.x....": false, "xx.x..": false, "xx.xx...": false, "x.xx.x..": false, bar(10, 0, 1, 3, 6): false,
	} {
		isBool(t, fmt.Sprintf("HasTwoSizes(%q)", text), impl.HasTwoSizes(rhythmOfText(text)), want)
	}
}

func TestSumsOfSizes(t *testing.T) {
	for _, c := range []struct {
		text  string
		count int
		sum   bool
	}{
		{".", 0, true}, {"........", 0, true}, {bar(24), 0, true},
		{"x", 1, true}, {".x", 1, true}, {"xx", 1, true}, {"xxx", 1, true}, {"...x....", 1, true}, {"x...x...", 1, true}, {"x.x.x.x.", 1, true}, {"xxxxxxxx", 1, true}, {bar(24, 23), 1, true}, {bar(24, 0, 12), 1, true}, {full(24), 1, true},
		{"xx.", 2, true}, {"x.x", 2, true}, {"xx......", 2, true}, {"x..x..x.", 2, true}, {"x.x...", 2, true}, {"xx.xx.", 2, true}, {"x.xxx.", 2, true}, {"xxx.....", 2, true}, {"x.x.x..x.x..", 2, true}, {"." + full(23), 2, true}, {bar(24, 0, 1), 2, true},
		// The greatest of three is the sum of both others: with steps in any order, and without a step of 1.
		{"xx.x..", 3, true}, {"xx..x.", 3, true}, {"x.xx..", 3, true}, {"..x.xx", 3, true}, {"xxx.x..", 3, true}, {"x.xx.x..", 3, true}, {"xx.x..x.", 3, true}, {"xx..xx.x.", 3, true}, {bar(10, 0, 2, 5), 3, true}, {bar(24, 0, 5, 12), 3, true}, {bar(24, 0, 1, 12), 3, true},
		// It is less than the sum, or greater than it.
		{bar(9, 0, 2, 5), 3, false}, {"xx.x....", 3, false}, {"xx.xx...", 3, false}, {"xx.x...", 3, false}, {"x....xx.", 3, false}, {bar(12, 0, 3, 7), 3, false}, {bar(9, 0, 1, 4), 3, false}, {bar(24, 0, 1, 3), 3, false}, {bar(24, 0, 7, 15), 3, false},
		// There are more than three, also where the greatest is the sum of two others, or of all others.
		{bar(10, 0, 1, 3, 6), 4, false}, {"xx.x..x...", 4, false}, {bar(12, 0, 1, 3, 6), 4, false}, {bar(15, 0, 1, 3, 6, 10), 5, false}, {bar(21, 0, 1, 3, 6, 10, 15), 6, false}, {bar(24, 0, 1, 3, 6, 10, 15), 6, false},
	} {
		r := rhythmOfText(c.text)
		sameInt(t, fmt.Sprintf("CountSizes(%q)", c.text), impl.CountSizes(r), c.count)
		isBool(t, fmt.Sprintf("IsSumOfSizes(%q)", c.text), impl.IsSumOfSizes(r), c.sum)
	}
}

// TestGeneratedRhythmsHaveFewSizes: they have at most three, and then the greatest one is the sum of both others.
func TestGeneratedRhythmsHaveFewSizes(t *testing.T) {
	three := 0
	for k, n := range beatsAndSizes {
		for g := 1; g <= n; g++ {
			r, ok := impl.GeneratedRhythm(n, k, g)
			if !ok {
				continue
			}
			if impl.CountSizes(r) > 3 || !impl.IsSumOfSizes(r) {
				t.Errorf("GeneratedRhythm(%d, %d, %d) has the StepSizes %v", n, k, g, impl.StepSizes(r))
			}
			if impl.CountSizes(r) == 3 {
				three++
			}
		}
	}
	if three == 0 {
		t.Error("no generated rhythm has three StepSizes")
	}
}

// TestOtherPulsesAreGenerated leaves out the g that have a divisor with n: "x.x..." is a chain by 2, and the other pulses, ".x.xxx", are none.
func TestOtherPulsesAreGenerated(t *testing.T) {
	for k, n := range beatsAndSizes {
		for g := 1; g < n; g++ {
			if g > 1 && !mayStretch(g, n) {
				continue
			}
			r, _ := impl.GeneratedRhythm(n, k, g)
			others, ok := impl.OtherRhythm(r)
			isBool(t, fmt.Sprintf("%d generates the other pulses of %q", g, textOf(r)), ok && impl.IsGenerated(others) && slices.Contains(impl.GeneratorsOf(others), g), true)
		}
	}
}

// textCounts has the numbers of beats for TwoSizeCounts.
func textCounts(n int, g int) []int {
	var counts []int
	for k := 2; k < n; k++ {
		if text := generatedText(n, k, g); text != "" && len(textSizes(text)) < 3 {
			counts = append(counts, k)
		}
	}
	return counts
}

func TestTwoSizeCountsOfAllPulses(t *testing.T) {
	for n := 1; n <= 24; n++ {
		for _, g := range numbersAround(n) {
			var want []int
			if 1 <= g && g < n {
				want = textCounts(n, g)
			}
			sameInts(t, fmt.Sprintf("TwoSizeCounts(%d, %d)", n, g), impl.TwoSizeCounts(n, g), want)
		}
	}
}

func TestTwoSizeCounts(t *testing.T) {
	for _, c := range []struct {
		n    int
		g    int
		want []int
	}{
		// There is no g, or no k.
		{1, 1, nil}, {1, 0, nil}, {2, 1, nil}, {2, 2, nil}, {3, 3, nil}, {12, 12, nil}, {12, 0, nil}, {24, 24, nil}, {24, 25, nil}, {25, 1, nil}, {25, 24, nil},
		{3, 1, []int{2}}, {3, 2, []int{2}}, {4, 1, []int{2, 3}}, {4, 2, []int{2}}, {4, 3, []int{2, 3}},
		// All numbers of beats, for g of 1 and of n - 1, and where n is small.
		{5, 2, []int{2, 3, 4}}, {7, 1, []int{2, 3, 4, 5, 6}}, {7, 2, []int{2, 3, 4, 5, 6}}, {12, 1, numbersUpTo(12)[2:]}, {12, 11, numbersUpTo(12)[2:]}, {24, 1, numbersUpTo(24)[2:]}, {24, 23, numbersUpTo(24)[2:]},
		// Some have three steps.
		{7, 3, []int{2, 3, 5, 6}}, {8, 3, []int{2, 3, 5, 6, 7}}, {8, 5, []int{2, 3, 5, 6, 7}}, {9, 4, []int{2, 3, 5, 7, 8}}, {10, 3, []int{2, 3, 4, 7, 8, 9}}, {12, 5, []int{2, 3, 5, 7, 8, 9, 10, 11}}, {12, 7, []int{2, 3, 5, 7, 8, 9, 10, 11}}, {13, 5, []int{2, 3, 5, 8, 9, 10, 11, 12}}, {23, 9, []int{2, 3, 5, 8, 13, 18, 19, 20, 21, 22}}, {24, 7, []int{2, 3, 4, 7, 10, 17, 18, 19, 20, 21, 22, 23}},
		// The rhythms end where the chain is closed.
		{6, 2, []int{2, 3}}, {6, 3, []int{2}}, {8, 4, []int{2}}, {8, 6, []int{2, 3, 4}}, {12, 4, []int{2, 3}}, {12, 6, []int{2}}, {12, 9, []int{2, 3, 4}}, {24, 12, []int{2}}, {24, 8, []int{2, 3}}, {24, 9, []int{2, 3, 5, 6, 7, 8}}, {24, 10, []int{2, 3, 5, 7, 8, 9, 10, 11, 12}},
	} {
		sameInts(t, fmt.Sprintf("TwoSizeCounts(%d, %d)", c.n, c.g), impl.TwoSizeCounts(c.n, c.g), c.want)
	}
}

func TestNoTwoSizeCounts(t *testing.T) {
	for _, n := range append(extremes(), -1000, -24, -8, -2, -1, 0, 25, 26, 48, 1000) {
		for _, g := range append(extremes(), -n, -1, 0, 1, 2, 7, 12, 23, 24, 25, n-1, n) {
			sameInts(t, fmt.Sprintf("TwoSizeCounts(%d, %d)", n, g), impl.TwoSizeCounts(n, g), nil)
		}
	}
}

// isNotGenerated checks the functions of a rhythm that is not valid. It has no StepSizes, and so at most two.
func isNotGenerated(t *testing.T, bad impl.Rhythm) {
	t.Helper()
	r, memory := withSpare(bad)
	before := slices.Clone(memory)
	name := shortName(bad)
	sameInts(t, "GeneratorsOf "+name, impl.GeneratorsOf(r), nil)
	isBool(t, "IsGenerated "+name, impl.IsGenerated(r), false)
	for _, g := range append(extremes(), -1, 0, 1, 3, 5, 7, 8, 23, 24, bad.Size, bad.Size-1) {
		sameInts(t, fmt.Sprintf("ChainOf %s by %d", name, g), impl.ChainOf(r, g), nil)
		got, ok := impl.ExtendChain(r, g)
		isNoRhythm(t, fmt.Sprintf("ExtendChain %s by %d", name, g), got, ok)
	}
	isBool(t, "HasTwoSizes "+name, impl.HasTwoSizes(r), false)
	sameInt(t, "CountSizes "+name, impl.CountSizes(r), 0)
	isBool(t, "IsSumOfSizes "+name, impl.IsSumOfSizes(r), true)
	if !slices.Equal(memory, before) {
		t.Errorf("a function of generated rhythms changes %s", name)
	}
}

func TestInvalidRhythmsAreNotGenerated(t *testing.T) {
	for _, bad := range invalidRhythms() {
		isNotGenerated(t, bad)
	}
	// These have the remainders of a generated rhythm, or have too many pulses for one.
	for _, beats := range [][]int{{-2, 0, 3}, {3, 6, 8}, {0, 3, 14}, {0, 3, 6, 8}, {0, 6, 3}, {6, 3, 0}, {0, 3, 3, 6}, {-8, 3, 6}, {8}, {-8}} {
		isNotGenerated(t, impl.Rhythm{Size: 8, Beats: beats})
	}
	isNotGenerated(t, impl.Rhythm{Size: 25, Beats: []int{0, 7, 14}})
	isNotGenerated(t, impl.Rhythm{Size: 8000, Beats: []int{0, 3, 6}})
}

// TestGeneratedWithoutBeats holds a nil list of beats against an empty one, and against one with memory behind it.
func TestGeneratedWithoutBeats(t *testing.T) {
	for size := 1; size <= 24; size++ {
		for _, r := range []impl.Rhythm{{Size: size}, {Size: size, Beats: []int{}}, {Size: size, Beats: []int{0, 0, 7}[:0]}} {
			label := fmt.Sprintf(" without beats and Size %d", size)
			sameInts(t, "GeneratorsOf"+label, impl.GeneratorsOf(r), numbersFrom1(size))
			isBool(t, "IsGenerated"+label, impl.IsGenerated(r), size > 1)
			for g := range size + 2 {
				sameInts(t, fmt.Sprintf("ChainOf%s by %d", label, g), impl.ChainOf(r, g), nil)
				got, ok := impl.ExtendChain(r, g)
				isNoRhythm(t, fmt.Sprintf("ExtendChain%s by %d", label, g), got, ok)
			}
			isBool(t, "HasTwoSizes"+label, impl.HasTwoSizes(r), false)
			sameInt(t, "CountSizes"+label, impl.CountSizes(r), 0)
			isBool(t, "IsSumOfSizes"+label, impl.IsSumOfSizes(r), true)
		}
	}
}

func TestReturnedGeneratedRhythmsAreNew(t *testing.T) {
	for k, n := range beatsAndSizes {
		for _, g := range []int{1, n - 1, n, 2, 7} {
			label := fmt.Sprintf("GeneratedRhythm(%d, %d, %d)", n, k, g)
			if _, ok := impl.GeneratedRhythm(n, k, g); ok {
				isNewMemory(t, label, func() impl.Rhythm { r, _ := impl.GeneratedRhythm(n, k, g); return r })
			}
		}
	}
}

func textsOfChains() []string {
	return append(textsForMemory(), "xxx.....", "...xxx..", "xx....xx", "x.x.x.x.", "x.xxx", "..x..x..x", "x.x.x..x.x..", "xx.xx.", "xxxxxxx.", bar(24, 0, 12), bar(24, 1, 5, 8, 15, 22))
}

// isNewList overwrites one result; an earlier one and a later one must keep their numbers.
func isNewList(t *testing.T, label string, listed func() []int) {
	t.Helper()
	first := listed()
	kept := slices.Clone(first)
	spoil(impl.Rhythm{Beats: listed()})
	sameInts(t, label+" after another result was changed", first, kept)
	sameInts(t, label+" once more", listed(), kept)
}

func TestReturnedChainsAreNew(t *testing.T) {
	for _, text := range textsOfChains() {
		r, memory := withSpare(rhythmOfText(text))
		before := slices.Clone(memory)
		isNewList(t, fmt.Sprintf("GeneratorsOf(%q)", text), func() []int { return impl.GeneratorsOf(r) })
		for g := range r.Size + 1 {
			isNewList(t, fmt.Sprintf("ChainOf(%q, %d)", text, g), func() []int { return impl.ChainOf(r, g) })
			if _, ok := impl.ExtendChain(r, g); ok {
				isNewMemory(t, fmt.Sprintf("ExtendChain(%q, %d)", text, g), func() impl.Rhythm { got, _ := impl.ExtendChain(r, g); return got })
			}
			isNewList(t, fmt.Sprintf("TwoSizeCounts(%d, %d)", r.Size, g), func() []int { return impl.TwoSizeCounts(r.Size, g) })
		}
		sameInts(t, fmt.Sprintf("the beats of %q after its chains", text), memory, before)
	}
}

func TestAskingForGeneratorsKeepsRhythms(t *testing.T) {
	for _, text := range textsOfChains() {
		r, memory := withSpare(rhythmOfText(text))
		before := slices.Clone(memory)
		impl.IsGenerated(r)
		impl.HasTwoSizes(r)
		impl.CountSizes(r)
		impl.IsSumOfSizes(r)
		sameInts(t, fmt.Sprintf("the beats of %q after questions about generated rhythms", text), memory, before)
	}
}

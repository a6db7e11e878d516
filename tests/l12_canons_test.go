package tests

import (
	"fmt"
	"math"
	"math/rand/v2"
	"slices"
	"strings"
	"testing"

	"loop.example/g03204/impl"
)

// The expected values of this file are made of texts: a voice is the text of Inner, turned by a place of the text of Outer, and it plays where its text has an x.

func canonOf(inner string, outer string) impl.Canon {
	return impl.Canon{Inner: rhythmOfText(inner), Outer: rhythmOfText(outer)}
}

func voiceTexts(inner string, outer string) []string {
	var lines []string
	for _, q := range placesOf(outer) {
		lines = append(lines, turnedText(inner, q))
	}
	return lines
}

// voicesIn has, for each pulse, the indices of the lines with an x there.
func voicesIn(lines []string) [][]int {
	voices := make([][]int, len(lines[0]))
	for v, line := range lines {
		for _, p := range placesOf(line) {
			voices[p] = append(voices[p], v)
		}
	}
	return voices
}

func lineOfVoices(voices [][]int) []int {
	var line []int
	for _, list := range voices {
		switch len(list) {
		case 0:
			line = append(line, -1)
		case 1:
			line = append(line, list[0])
		default:
			line = append(line, -2)
		}
	}
	return line
}

func countOf(list []int, n int) int { return len(placesWith(list, func(m int) bool { return m == n })) }

// isPlayed checks all functions that tell of a canon, for the pulses from 0 up to Size.
func isPlayed(t *testing.T, inner string, outer string, lines []string, line []int, clashes int, tight bool) {
	t.Helper()
	c := canonOf(inner, outer)
	label := fmt.Sprintf("(%q, %q)", inner, outer)
	isBool(t, "CanonOk"+label, impl.CanonOk(c), true)
	isBool(t, "IsTight"+label, impl.IsTight(c), tight)
	sameInts(t, "LineOf"+label, impl.LineOf(c), line)
	sameInt(t, "CountClashes"+label, impl.CountClashes(c), clashes)
	sameTexts(t, "FormatCanon"+label, impl.FormatCanon(c), lines)
	for v, want := range lines {
		hasVoice(t, inner, outer, v, want)
	}
	hasVoice(t, inner, outer, -1, "")
	hasVoice(t, inner, outer, len(lines), "")
	for p, want := range voicesIn(lines) {
		hasVoicesAt(t, inner, outer, p, want)
	}
}

// hasVoice takes an empty text for no voice.
func hasVoice(t *testing.T, inner string, outer string, v int, want string) {
	t.Helper()
	got, ok := impl.VoiceRhythm(canonOf(inner, outer), v)
	label := fmt.Sprintf("VoiceRhythm(%q, %q, %d)", inner, outer, v)
	if want == "" {
		isNoRhythm(t, label, got, ok)
	} else {
		isRhythm(t, label, got, ok, rhythmOfText(want))
	}
}

func hasVoicesAt(t *testing.T, inner string, outer string, pulse int, want []int) {
	t.Helper()
	sameInts(t, fmt.Sprintf("VoicesAt(%q, %q, %d)", inner, outer, pulse), impl.VoicesAt(canonOf(inner, outer), pulse), want)
}

// isPlayedAsWritten makes the wanted values of the texts.
func isPlayedAsWritten(t *testing.T, inner string, outer string) {
	t.Helper()
	lines := voiceTexts(inner, outer)
	line := lineOfVoices(voicesIn(lines))
	clashes := countOf(line, -2)
	isPlayed(t, inner, outer, lines, line, clashes, clashes == 0 && countOf(line, -1) == 0)
}

// textsWithBeats has all texts of n characters but the one without beats, which is the first one.
func textsWithBeats(n int) []string { return textsOfSize(n)[1:] }

// shortCanons goes through all canons of the Sizes from 1 to most.
func shortCanons(most int) func(yield func(inner string, outer string) bool) {
	return func(yield func(inner string, outer string) bool) {
		for n := 1; n <= most; n++ {
			texts := textsWithBeats(n)
			for _, inner := range texts {
				for _, outer := range texts {
					if !yield(inner, outer) {
						return
					}
				}
			}
		}
	}
}

// longCanons goes through some canons of each Size from 9 to 24, with few and with many beats, of periodic rhythms and of others.
func longCanons(yield func(inner string, outer string) bool) {
	random := newRandom()
	for n := 9; n <= 24; n++ {
		texts := []string{bar(n, 0), bar(n, n-1), full(n), "." + full(n-1)}
		for range 12 {
			texts = append(texts, textWithBeats(random, n, 1+random.IntN(4)), textWithBeats(random, n, 1+random.IntN(n)), periodicText(random, n))
		}
		for _, inner := range texts {
			for _, outer := range texts {
				if !yield(inner, outer) {
					return
				}
			}
		}
	}
}

// periodicText repeats a text whose length divides n.
func periodicText(random *rand.Rand, n int) string {
	k := 1 + random.IntN(n)
	for n%k != 0 {
		k = 1 + random.IntN(n)
	}
	return strings.Repeat(textWithBeats(random, k, 1+random.IntN(k)), n/k)
}

func TestAllShortCanons(t *testing.T) {
	for inner, outer := range shortCanons(7) {
		isPlayedAsWritten(t, inner, outer)
	}
}

func TestLongCanons(t *testing.T) {
	for inner, outer := range longCanons {
		isPlayedAsWritten(t, inner, outer)
	}
}

func TestTightLongCanons(t *testing.T) {
	for inner, outer := range tilings {
		isPlayedAsWritten(t, inner, outer)
		isBool(t, fmt.Sprintf("IsTight(%q, %q)", inner, outer), impl.IsTight(canonOf(inner, outer)), true)
	}
}

func TestCanons(t *testing.T) {
	for _, c := range []struct {
		inner   string
		outer   string
		lines   []string
		line    []int
		clashes int
		tight   bool
	}{
		// Sizes 1 and 2.
		{"x", "x", []string{"x"}, []int{0}, 0, true},
		{"x.", "x.", []string{"x."}, []int{0, -1}, 0, false}, {".x", "x.", []string{".x"}, []int{-1, 0}, 0, false}, {".x", ".x", []string{"x."}, []int{0, -1}, 0, false}, {"x.", "xx", []string{"x.", ".x"}, []int{0, 1}, 0, true}, {".x", "xx", []string{".x", "x."}, []int{1, 0}, 0, true}, {"xx", ".x", []string{"xx"}, []int{0, 0}, 0, true}, {"xx", "xx", []string{"xx", "xx"}, []int{-2, -2}, 2, false},
		// One beat in either rhythm.
		{"x...", "x...", []string{"x..."}, []int{0, -1, -1, -1}, 0, false}, {"..x.", "...x", []string{".x.."}, []int{-1, 0, -1, -1}, 0, false}, {"...x", "x.x.", []string{"...x", ".x.."}, []int{-1, 1, -1, 0}, 0, false}, {"x.x.", "...x", []string{".x.x"}, []int{-1, 0, -1, 0}, 0, false}, {".x..", "xxxx", []string{".x..", "..x.", "...x", "x..."}, []int{3, 0, 1, 2}, 0, true},
		// A beat on every pulse in either rhythm.
		{"xxxx", "..x.", []string{"xxxx"}, []int{0, 0, 0, 0}, 0, true}, {"xxxx", ".x.x", []string{"xxxx", "xxxx"}, []int{-2, -2, -2, -2}, 4, false}, {"xx.", "xxx", []string{"xx.", ".xx", "x.x"}, []int{-2, -2, -2}, 3, false}, {"xxx", "xxx", []string{"xxx", "xxx", "xxx"}, []int{-2, -2, -2}, 3, false},
		// Tight canons, also with an Outer whose first beat is not on pulse 0.
		{"xx..", "x.x.", []string{"xx..", "..xx"}, []int{0, 0, 1, 1}, 0, true}, {"x.x.", "xx..", []string{"x.x.", ".x.x"}, []int{0, 1, 0, 1}, 0, true}, {"x.x.", ".xx.", []string{".x.x", "x.x."}, []int{1, 0, 1, 0}, 0, true}, {"x..x", ".x.x", []string{"xx..", "..xx"}, []int{0, 0, 1, 1}, 0, true}, {"x..x..", "..xxx.", []string{"..x..x", "x..x..", ".x..x."}, []int{1, 2, 0, 1, 2, 0}, 0, true}, {"x..x..", "x.x.x.", []string{"x..x..", "..x..x", ".x..x."}, []int{0, 2, 1, 0, 2, 1}, 0, true}, {"xx..xx..", ".x.....x", []string{".xx..xx.", "x..xx..x"}, []int{1, 0, 0, 1, 1, 0, 0, 1}, 0, true},
		// Pulses on which no voice plays.
		{"xx....", "x..x..", []string{"xx....", "...xx."}, []int{0, 0, -1, 1, 1, -1}, 0, false}, {"x..x..x.", ".x......", []string{".x..x..x"}, []int{-1, 0, -1, -1, 0, -1, -1, 0}, 0, false}, {"x..x..x.", ".x...x..", []string{".x..x..x", "x..x.x.."}, []int{1, 0, -1, 1, 0, 1, -1, 0}, 0, false},
		// Clashes.
		{"xxx.", "x.x.", []string{"xxx.", "x.xx"}, []int{-2, 0, -2, 1}, 2, false}, {"xxxx.", "xx...", []string{"xxxx.", ".xxxx"}, []int{0, -2, -2, -2, 1}, 3, false}, {"x..x..x.", "xxx.....", []string{"x..x..x.", ".x..x..x", "x.x..x.."}, []int{-2, 1, 2, 0, 1, 2, 0, 1}, 1, false},
		// Both.
		{"xx..", "xx..", []string{"xx..", ".xx."}, []int{0, -2, 1, -1}, 1, false}, {"xx..", ".xx.", []string{".xx.", "..xx"}, []int{-1, 0, -2, 1}, 1, false}, {"x.x.", "x.x.", []string{"x.x.", "x.x."}, []int{-2, -1, -2, -1}, 2, false}, {"xx.....", "x.x...x", []string{"xx.....", "..xx...", "x.....x"}, []int{-2, 0, 1, 1, -1, -1, 2}, 1, false}, {"xx......", ".xxx....", []string{".xx.....", "..xx....", "...xx..."}, []int{-1, 0, -2, -2, 2, -1, -1, -1}, 2, false},
		// Size 12.
		{bar(12, 11), bar(12, 3), []string{"..x........."}, append([]int{-1, -1, 0}, times(-1, 9)...), 0, false}, {full(12), bar(12, 7), []string{full(12)}, zeros(12), 0, true}, {"x..x..x..x..", "xx...x......", []string{"x..x..x..x..", ".x..x..x..x.", "..x..x..x..x"}, []int{0, 1, 2, 0, 1, 2, 0, 1, 2, 0, 1, 2}, 0, true}, {"xx....xx....", "....x..x....", []string{"....xx....xx", ".xx....xx..."}, []int{-1, 1, 1, -1, 0, 0, -1, 1, 1, -1, 0, 0}, 0, false}, {"xxx.........", "..x..x..x..x", []string{"..xxx.......", ".....xxx....", "........xxx.", "xx.........x"}, []int{3, 3, 0, 0, 0, 1, 1, 1, 2, 2, 2, 3}, 0, true}, {full(12), full(12), slices.Repeat([]string{full(12)}, 12), times(-2, 12), 12, false},
		// Size 24.
		{bar(24, 23), bar(24, 23), []string{bar(24, 22)}, append(times(-1, 22), 0, -1), 0, false}, {full(24), bar(24, 5), []string{full(24)}, zeros(24), 0, true}, {bar(24, 5), full(24), turnedTexts(bar(24, 5)), append([]int{19, 20, 21, 22, 23}, numbersUpTo(19)...), 0, true}, {bar(24, 0, 12), full(12) + bar(12), []string{bar(24, 0, 12), bar(24, 1, 13), bar(24, 2, 14), bar(24, 3, 15), bar(24, 4, 16), bar(24, 5, 17), bar(24, 6, 18), bar(24, 7, 19), bar(24, 8, 20), bar(24, 9, 21), bar(24, 10, 22), bar(24, 11, 23)}, append(numbersUpTo(12), numbersUpTo(12)...), 0, true}, {full(8) + bar(16), bar(24, 3, 11, 19), []string{bar(3) + full(8) + bar(13), bar(11) + full(8) + bar(5), "xxx" + bar(16) + full(5)}, slices.Concat(times(2, 3), times(0, 8), times(1, 8), times(2, 5)), 0, true}, {full(13) + bar(11), bar(24, 0, 12), []string{full(13) + bar(11), "x" + bar(11) + full(12)}, slices.Concat([]int{-2}, times(0, 11), []int{-2}, times(1, 11)), 2, false}, {full(24), bar(24, 0, 23), []string{full(24), full(24)}, times(-2, 24), 24, false},
	} {
		isPlayed(t, c.inner, c.outer, c.lines, c.line, c.clashes, c.tight)
	}
}

func TestVoicesAt(t *testing.T) {
	for _, c := range []struct {
		inner string
		outer string
		pulse int
		want  []int
	}{
		{"x", "x", 0, []int{0}}, {"x", "x", 1, []int{0}}, {"x", "x", -1, []int{0}}, {"x", "x", 1000, []int{0}}, {"x", "x", -1000, []int{0}}, {"x", "x", 1001, nil}, {"x", "x", -1001, nil},
		// One voice, none, and two: 0, below, at and beyond Size.
		{"xx..", "xx..", 0, []int{0}}, {"xx..", "xx..", 1, []int{0, 1}}, {"xx..", "xx..", 2, []int{1}}, {"xx..", "xx..", 3, nil}, {"xx..", "xx..", 4, []int{0}}, {"xx..", "xx..", 5, []int{0, 1}}, {"xx..", "xx..", 7, nil}, {"xx..", "xx..", 998, []int{1}},
		// Negative.
		{"xx..", "xx..", -1, nil}, {"xx..", "xx..", -2, []int{1}}, {"xx..", "xx..", -3, []int{0, 1}}, {"xx..", "xx..", -4, []int{0}}, {"xx..", "xx..", -7, []int{0, 1}}, {"xx..", "xx..", -999, []int{0, 1}},
		// 1000, 1001 and their like: 1000 is 6 modulo 7, and -1000 is 1.
		{"xx.....", "x.x...x", 7, []int{0, 2}}, {"xx.....", "x.x...x", -7, []int{0, 2}}, {"xx.....", "x.x...x", 999, nil}, {"xx.....", "x.x...x", 1000, []int{2}}, {"xx.....", "x.x...x", 1001, nil}, {"xx.....", "x.x...x", 994, []int{0, 2}}, {"xx.....", "x.x...x", -999, []int{1}}, {"xx.....", "x.x...x", -1000, []int{0}}, {"xx.....", "x.x...x", -1001, nil}, {"xx.....", "x.x...x", -994, []int{0, 2}},
		// All voices at once, in ascending order.
		{full(24), full(24), 0, numbersUpTo(24)}, {full(24), full(24), 23, numbersUpTo(24)}, {full(24), full(24), 24, numbersUpTo(24)}, {full(24), full(24), -1000, numbersUpTo(24)}, {full(24), full(24), 1000, numbersUpTo(24)}, {full(24), full(24), 1001, nil}, {full(24), bar(24, 2, 3, 5, 7, 11, 13, 17, 19, 23), 10, numbersUpTo(9)}, {bar(24, 0, 1, 2), full(24), 0, []int{0, 22, 23}}, {bar(24, 0, 1, 2), full(24), 24, []int{0, 22, 23}}, {bar(24, 0, 1, 2), full(24), 25, []int{0, 1, 23}}, {bar(24, 0, 1, 2), full(24), -1, []int{21, 22, 23}}, {bar(24, 5), bar(24, 20), 1, []int{0}}, {bar(24, 5), bar(24, 20), -23, []int{0}}, {bar(24, 5), bar(24, 20), 0, nil},
	} {
		hasVoicesAt(t, c.inner, c.outer, c.pulse, c.want)
	}
	for _, pulse := range append(extremes(), -1001, 1001, 1<<32, 1<<32+1, 1<<62, -1<<62) {
		for _, n := range []int{1, 2, 12, 24} {
			hasVoicesAt(t, full(n), full(n), pulse, nil)
		}
	}
}

// TestVoicesAtAllPulses takes each t from -1002 to 1002.
func TestVoicesAtAllPulses(t *testing.T) {
	for _, pair := range [][2]string{{"x", "x"}, {"x.", ".x"}, {"xx..", "xx.."}, {"xx.....", "x.x...x"}, {"x..x..x.", ".x...x.."}, {"xx....xx....", "....x..x...."}, {bar(24, 0, 1, 2), bar(24, 3, 4, 9, 20)}} {
		voices := voicesIn(voiceTexts(pair[0], pair[1]))
		for pulse := -1002; pulse <= 1002; pulse++ {
			var want []int
			if pulse >= -1000 && pulse <= 1000 {
				want = voices[remainder(pulse, len(voices))]
			}
			hasVoicesAt(t, pair[0], pair[1], pulse, want)
		}
	}
}

func TestVoiceRhythm(t *testing.T) {
	for _, c := range []struct {
		inner string
		outer string
		v     int
		want  string
	}{
		{"x", "x", 0, "x"}, {"x", "x", 1, ""}, {"x", "x", -1, ""},
		{"xx..", "x.x.", 0, "xx.."}, {"xx..", "x.x.", 1, "..xx"}, {"xx..", "x.x.", 2, ""}, {"xx..", "x.x.", 3, ""}, {"xx..", "x.x.", 4, ""}, {"xx..", "x.x.", -1, ""}, {"xx..", "x.x.", -2, ""},
		{".xx.", "...x", 0, "xx.."}, {".xx.", "...x", 1, ""}, {".xx.", "...x", 3, ""}, {"x..x..x.", ".x...x..", 0, ".x..x..x"}, {"x..x..x.", ".x...x..", 1, "x..x.x.."}, {"x..x..x.", ".x...x..", 5, ""},
		{bar(24, 1, 2), full(24), 0, bar(24, 1, 2)}, {bar(24, 1, 2), full(24), 21, bar(24, 22, 23)}, {bar(24, 1, 2), full(24), 22, bar(24, 23, 0)}, {bar(24, 1, 2), full(24), 23, bar(24, 0, 1)}, {bar(24, 1, 2), full(24), 24, ""}, {bar(24, 1, 2), full(24), -24, ""},
	} {
		hasVoice(t, c.inner, c.outer, c.v, c.want)
	}
	for _, v := range append(extremes(), 1<<32, 1<<32+1, 1000, -1000) {
		hasVoice(t, "x", "x", v, "")
		hasVoice(t, "xx..", "x.x.", v, "")
		hasVoice(t, full(24), full(24), v, "")
	}
}

// isCanon takes an empty text of Inner for no canon.
func isCanon(t *testing.T, label string, got impl.Canon, ok bool, inner string, outer string) {
	t.Helper()
	if inner == "" {
		isNoRhythm(t, "the Inner of "+label, got.Inner, ok)
		isNoRhythm(t, "the Outer of "+label, got.Outer, ok)
	} else {
		isRhythm(t, "the Inner of "+label, got.Inner, ok, rhythmOfText(inner))
		isRhythm(t, "the Outer of "+label, got.Outer, ok, rhythmOfText(outer))
	}
}

func isExchanged(t *testing.T, inner string, outer string) {
	t.Helper()
	got, ok := impl.ExchangeCanon(canonOf(inner, outer))
	isCanon(t, fmt.Sprintf("ExchangeCanon(%q, %q)", inner, outer), got, ok, outer, inner)
}

// isStretchedCanon takes an empty text for no canon.
func isStretchedCanon(t *testing.T, inner string, outer string, u int, want string) {
	t.Helper()
	got, ok := impl.StretchCanon(canonOf(inner, outer), u)
	isCanon(t, fmt.Sprintf("StretchCanon(%q, %q, %d)", inner, outer, u), got, ok, want, outer)
}

// isTurnedCanon takes empty texts for no canon.
func isTurnedCanon(t *testing.T, inner string, outer string, i int, o int, wantInner string, wantOuter string) {
	t.Helper()
	got, ok := impl.RotateCanon(canonOf(inner, outer), i, o)
	isCanon(t, fmt.Sprintf("RotateCanon(%q, %q, %d, %d)", inner, outer, i, o), got, ok, wantInner, wantOuter)
}

func TestExchangeCanon(t *testing.T) {
	for _, pair := range [][2]string{{"x", "x"}, {"x.", ".x"}, {"xx", ".x"}, {"xx..", "x.x."}, {"xx..", "xx.."}, {".x..", "xxxx"}, {"x..x..x.", ".x...x.."}, {bar(12, 11), full(12)}, {bar(24, 5), full(24)}, {full(24), full(24)}, {bar(24, 0, 8, 16), full(8) + bar(16)}} {
		isExchanged(t, pair[0], pair[1])
		isExchanged(t, pair[1], pair[0])
	}
	for inner, outer := range shortCanons(6) {
		isExchanged(t, inner, outer)
	}
	for inner, outer := range longCanons {
		isExchanged(t, inner, outer)
	}
}

// stretchedText is empty if two places come to the same one of a bar of n beats, or u is not from 1 up to n (1 for 1).
func stretchedText(text string, u int) string {
	n := len(text)
	if u < 1 || u > max(n-1, 1) {
		return ""
	}
	places := map[int]bool{}
	stretched := bar(n)
	for p := range n {
		place := u * p % n
		places[place] = true
		if text[p] == 'x' {
			stretched = withX(stretched, place)
		}
	}
	if len(places) < n {
		return ""
	}
	return stretched
}

func TestStretchCanon(t *testing.T) {
	for _, c := range []struct {
		inner string
		outer string
		u     int
		want  string
	}{
		{"x", "x", 1, "x"}, {"x", "x", 0, ""}, {"x", "x", 2, ""}, {"x", "x", -1, ""}, {".x", "x.", 1, ".x"}, {".x", "x.", 2, ""}, {".x", "x.", 3, ""}, {".x", "x.", -1, ""},
		// Units and others.
		{"xx..", "x.x.", 1, "xx.."}, {"xx..", "x.x.", 3, "x..x"}, {"xx..", "x.x.", 2, ""}, {"xx..", "x.x.", 0, ""}, {"xx..", "x.x.", 4, ""}, {"xx..", "x.x.", 5, ""}, {"xx..", "x.x.", -1, ""}, {"xx..", "x.x.", -3, ""}, {"xx..", "xxx.", 3, "x..x"}, {"x..x..x.", ".xx.....", 3, "xxx....."}, {"x..x..x.", ".xx.....", 5, "x.....xx"}, {"x..x..x.", ".xx.....", 6, ""}, {"x..x..x.", ".xx.....", 7, "x.x..x.."}, {".x.....", "x......", 6, "......x"}, {".x.....", "x......", 7, ""}, {".x.....", "x......", 8, ""},
		// Only Inner is stretched.
		{"x.x.", "xx..", 3, "x.x."}, {"xxxx", ".x..", 3, "xxxx"}, {"x...", "xx..", 3, "x..."}, {"xx..........", "xx..........", 5, "x....x......"}, {"xx..........", "xx..........", 7, "x......x...."}, {"xx..........", "xx..........", 11, "x..........x"}, {"xx..........", "xx..........", 9, ""}, {"xx..........", "xx..........", 10, ""}, {bar(24, 1, 2, 3), full(24), 23, bar(24, 21, 22, 23)}, {bar(24, 1, 2, 3), full(24), 5, bar(24, 5, 10, 15)}, {bar(24, 1, 2, 3), full(24), 22, ""}, {bar(24, 1, 2, 3), full(24), 24, ""}, {bar(24, 1, 2, 3), full(24), 25, ""}, {bar(24, 1, 2, 3), full(24), -23, ""},
		// Very great.
		{"xx..", "x.x.", 1001, ""}, {"xx..", "x.x.", 1<<32 + 1, ""}, {"xx..", "x.x.", 1<<32 + 3, ""}, {"xx..", "x.x.", math.MaxInt64, ""}, {"xx..", "x.x.", math.MinInt64 + 1, ""}, {"xx..", "x.x.", math.MinInt64, ""},
	} {
		isStretchedCanon(t, c.inner, c.outer, c.u, c.want)
	}
}

func TestManyStretchedCanons(t *testing.T) {
	for inner, outer := range shortCanons(5) {
		for _, u := range append(numbersAround(len(inner)), 1<<32+1) {
			isStretchedCanon(t, inner, outer, u, stretchedText(inner, u))
		}
	}
	for inner, outer := range longCanons {
		for _, u := range []int{1, 2, len(inner) / 2, len(inner) - 1, 1 + (len(outer)+len(placesOf(outer)))%len(inner)} {
			isStretchedCanon(t, inner, outer, u, stretchedText(inner, u))
		}
	}
}

func TestRotateCanon(t *testing.T) {
	for _, c := range []struct {
		inner     string
		outer     string
		i         int
		o         int
		wantInner string
		wantOuter string
	}{
		{"x", "x", 0, 0, "x", "x"}, {"x", "x", 1000, -1000, "x", "x"}, {"x.", "x.", 1, 0, ".x", "x."}, {"x.", "x.", 0, 1, "x.", ".x"}, {"x.", "x.", -1, 2, ".x", "x."},
		// 0, negative, and at and beyond Size.
		{"xx..", "x.x.", 0, 0, "xx..", "x.x."}, {"xx..", "x.x.", 1, 0, ".xx.", "x.x."}, {"xx..", "x.x.", 0, 1, "xx..", ".x.x"}, {"xx..", "x.x.", 3, 2, "x..x", "x.x."}, {"xx..", "x.x.", -1, -1, "x..x", ".x.x"}, {"xx..", "xxx.", -2, -3, "..xx", ".xxx"}, {"xx..", "xxx.", 4, 5, "xx..", ".xxx"}, {"xx..", "xxx.", -4, -5, "xx..", "xx.x"}, {bar(24, 0, 1), bar(24, 23), 23, 1, bar(24, 0, 23), bar(24, 0)}, {bar(24, 0, 1), bar(24, 23), -25, 25, bar(24, 0, 23), bar(24, 0)},
		// Great ones: 1000 is 6 modulo 7, and -1000 is 1.
		{"x......", "xx.....", 1000, 0, "......x", "xx....."}, {"x......", "xx.....", 0, 1000, "x......", "x.....x"}, {"x......", "xx.....", -1000, 0, ".x.....", "xx....."}, {"x......", "xx.....", 0, -1000, "x......", ".xx...."}, {"x......", "xx.....", 1000, -1000, "......x", ".xx...."}, {"x......", "xx.....", -999, 999, "..x....", ".....xx"},
		{"x......", "xx.....", 1001, 0, "", ""}, {"x......", "xx.....", 0, 1001, "", ""}, {"x......", "xx.....", -1001, 0, "", ""}, {"x......", "xx.....", 0, -1001, "", ""}, {"x......", "xx.....", 1001, 1001, "", ""}, {"x......", "xx.....", 1000, 1001, "", ""}, {"x......", "xx.....", -1001, -1000, "", ""}, {"x", "x", 1001, 0, "", ""}, {"x", "x", 0, -1001, "", ""}, {"x......", "xx.....", 1 << 32, 0, "", ""}, {"x......", "xx.....", 0, 1 << 32, "", ""},
	} {
		isTurnedCanon(t, c.inner, c.outer, c.i, c.o, c.wantInner, c.wantOuter)
	}
	for _, k := range extremes() {
		isTurnedCanon(t, "xx..", "x.x.", k, 0, "", "")
		isTurnedCanon(t, "xx..", "x.x.", 0, k, "", "")
		isTurnedCanon(t, "xx..", "x.x.", k, k, "", "")
	}
}

func TestManyTurnedCanons(t *testing.T) {
	for inner, outer := range shortCanons(4) {
		n := len(inner)
		for i := -n - 1; i <= n+1; i++ {
			for o := -n - 1; o <= n+1; o++ {
				isTurnedCanon(t, inner, outer, i, o, turnedText(inner, remainder(i, n)), turnedText(outer, remainder(o, n)))
			}
		}
	}
	random := newRandom()
	for inner, outer := range longCanons {
		i, o := random.IntN(2001)-1000, random.IntN(2001)-1000
		isTurnedCanon(t, inner, outer, i, o, turnedText(inner, remainder(i, len(inner))), turnedText(outer, remainder(o, len(outer))))
	}
}

// isTightCanon: a canon is tight, and on each pulse exactly one voice plays, also if its rhythms are exchanged.
func isTightCanon(t *testing.T, label string, c impl.Canon, ok bool) {
	t.Helper()
	exchanged, found := impl.ExchangeCanon(c)
	isBool(t, label+" is found and exchanged", ok && found, true)
	for _, canon := range []impl.Canon{c, exchanged} {
		isBool(t, "IsTight of "+label, impl.IsTight(canon), true)
		sameInt(t, "CountClashes of "+label, impl.CountClashes(canon), 0)
		line := impl.LineOf(canon)
		for pulse, v := range line {
			sameInts(t, fmt.Sprintf("VoicesAt of %s, pulse %d", label, pulse), impl.VoicesAt(canon, pulse), []int{v})
			r, ok := impl.VoiceRhythm(canon, v)
			isBool(t, fmt.Sprintf("the voice on the pulse %d of %s has a beat there", pulse, label), ok && impl.HasBeat(r, pulse), true)
		}
		sameInt(t, "the length of LineOf of "+label, len(line), canon.Inner.Size)
	}
}

// stayTight turns both rhythms by some numbers, and stretches the one and the other by each unit.
func stayTight(t *testing.T, inner string, outer string, turns []int) {
	t.Helper()
	c := canonOf(inner, outer)
	label := fmt.Sprintf("(%q, %q)", inner, outer)
	isTightCanon(t, label, c, true)
	for _, i := range turns {
		for _, o := range turns {
			turned, ok := impl.RotateCanon(c, i, o)
			isTightCanon(t, fmt.Sprintf("RotateCanon%s by %d and %d", label, i, o), turned, ok)
		}
	}
	exchanged, _ := impl.ExchangeCanon(c)
	for u := range len(inner) + 1 {
		if stretchedText(inner, u) != "" {
			stretched, ok := impl.StretchCanon(c, u)
			isTightCanon(t, fmt.Sprintf("StretchCanon%s by %d", label, u), stretched, ok)
			stretched, ok = impl.StretchCanon(exchanged, u)
			isTightCanon(t, fmt.Sprintf("StretchCanon by %d of %s, exchanged,", u, label), stretched, ok)
		}
	}
}

func TestShortTightCanonsStayTight(t *testing.T) {
	tight := 0
	for inner, outer := range shortCanons(8) {
		if textsTile(inner, outer) {
			tight++
			stayTight(t, inner, outer, numbersUpTo(len(inner)))
		} else if impl.IsTight(canonOf(inner, outer)) {
			t.Errorf("IsTight(%q, %q) = true, want false", inner, outer)
		}
	}
	isBool(t, fmt.Sprintf("%d tight canons are enough", tight), tight > 400, true)
}

func TestLongTightCanonsStayTight(t *testing.T) {
	for inner, outer := range tilings {
		if len(inner) > 8 {
			stayTight(t, inner, outer, []int{-5, 997})
		}
	}
}

// isRead takes an empty text of Inner for no canon.
func isRead(t *testing.T, lines []string, inner string, outer string) {
	t.Helper()
	got, ok := impl.ReadCanon(lines)
	isCanon(t, fmt.Sprintf("ReadCanon(%.30q)", lines), got, ok, inner, outer)
}

func TestReadCanon(t *testing.T) {
	for _, c := range []struct {
		lines string
		inner string
		outer string
	}{
		// One line: Outer has a beat on pulse 0 alone, whatever the first beat of Inner is.
		{"x", "x", "x"}, {"x.", "x.", "x."}, {".x", ".x", "x."}, {"xx", "xx", "x."}, {"xx..", "xx..", "x..."}, {"..x.", "..x.", "x..."}, {"x.x.", "x.x.", "x..."}, {full(24), full(24), bar(24, 0)}, {bar(24, 23), bar(24, 23), bar(24, 0)},
		// Lines without beats.
		{".", "", ""}, {"..", "", ""}, {"....", "", ""}, {bar(24), "", ""}, {". .", "", ""}, {".... ....", "", ""}, {".... xx..", "", ""}, {"xx.. ....", "", ""}, {"xxxx ....", "", ""},
		// The lines are rotations of the first one in the right order.
		{"x. .x", "x.", "xx"}, {".x x.", ".x", "xx"}, {"xx.. .xx.", "xx..", "xx.."}, {"xx.. ..xx", "xx..", "x.x."}, {"xx.. x..x", "xx..", "x..x"}, {".xx. ..xx", ".xx.", "xx.."}, {"..xx xx..", "..xx", "x.x."}, {"xx.. .xx. ..xx", "xx..", "xxx."}, {"xx.. .xx. x..x", "xx..", "xx.x"}, {"xx.. ..xx x..x", "xx..", "x.xx"}, {"xx.. .xx. ..xx x..x", "xx..", "xxxx"}, {"x..x .xx. ..xx", "x..x", "x.xx"}, {"x..x..x. .x..x..x x.x..x..", "x..x..x.", "xxx....."}, {"x..x..x. x.x..x.. x..x.x..", "x..x..x.", "x.x..x.."}, {bar(24, 0, 1) + " " + bar(24, 22, 23) + " " + bar(24, 0, 23), bar(24, 0, 1), bar(24, 0, 22, 23)},
		// In a wrong order.
		{"xx.. ..xx .xx.", "", ""}, {"xx.. x..x ..xx", "", ""}, {"xx.. x..x .xx.", "", ""}, {".xx. xx.. ..xx", "", ""}, {"xx.. .xx. xx..", "", ""}, {bar(24, 0, 1) + " " + bar(24, 0, 23) + " " + bar(24, 22, 23), "", ""},
		// The same line again, although its period is its Size.
		{"x x", "", ""}, {"x. x.", "", ""}, {"xx.. xx..", "", ""}, {"xx.. .xx. .xx.", "", ""}, {"xx.. .xx. ..xx x..x xx..", "", ""},
		// No rotations: other numbers of beats, other steps, mirrors.
		{"xx.. x.x.", "", ""}, {"xx.. x...", "", ""}, {"xx.. xxx.", "", ""}, {"xx.. xxxx", "", ""}, {"xxxx xx..", "", ""}, {"xx.x.... x.xx....", "", ""}, {"xx.. .xx. x.x.", "", ""}, {"xx.. x.x. ..xx", "", ""},
		// Other lengths.
		{"xx.. xx.", "", ""}, {"xx.. xx", "", ""}, {"xx.. .xx", "", ""}, {"xx.. .xx..", "", ""}, {"xx.. xx...", "", ""}, {"xx.. xx..xx..", "", ""}, {"xx..xx.. xx..", "", ""}, {"xx xxx", "", ""}, {"xxx xx", "", ""}, {"x. .x. .x", "", ""}, {full(24) + " " + full(23), "", ""}, {full(24) + " " + full(25), "", ""}, {full(25), "", ""}, {bar(25, 0), "", ""}, {full(25) + " " + full(25), "", ""}, {bar(48, 0), "", ""},
		// Lines that are no rhythms.
		{"", "", ""}, {" ", "", ""}, {"xx.. ", "", ""}, {" xx..", "", ""}, {"xx..  ..xx", "", ""}, {"X", "", ""}, {"o", "", ""}, {"xo..", "", ""}, {"XX..", "", ""}, {"xx.. .XX.", "", ""}, {"xx.. .xx-", "", ""}, {"xx.. .xx. ..ox", "", ""}, {"xx..\n", "", ""}, {"xx.. .xx.\n", "", ""}, {"xx..\r .xx.", "", ""}, {"xx..\x00", "", ""}, {"xx.. \x00xx.", "", ""}, {"xx.. \xffxx.", "", ""}, {"\xff", "", ""}, {"x,. .x,", "", ""}, {"10 01", "", ""},
		// The first line has a smaller period than its Size: each line enters as early as it can.
		{"xx xx", "xx", "xx"}, {"xx xx xx", "", ""}, {"xxx xxx", "xxx", "xx."}, {"xxx xxx xxx", "xxx", "xxx"}, {"xxx xxx xxx xxx", "", ""}, {"x.x. .x.x", "x.x.", "xx.."}, {"x.x. x.x.", "x.x.", "x.x."}, {".x.x .x.x", ".x.x", "x.x."}, {"x.x. .x.x x.x.", "x.x.", "xxx."}, {"x.x. .x.x .x.x", "x.x.", "xx.x"}, {"x.x. x.x. .x.x", "x.x.", "x.xx"}, {"x.x. .x.x x.x. .x.x", "x.x.", "xxxx"}, {"x.x. x.x. x.x.", "", ""}, {"x.x. x.x. .x.x .x.x", "", ""}, {"x.x. .x.x .x.x x.x.", "", ""}, {"x.x. .x.x x.x. .x.x x.x.", "", ""},
		{"x..x.. .x..x.", "x..x..", "xx...."}, {"x..x.. ..x..x", "x..x..", "x.x..."}, {"x..x.. x..x..", "x..x..", "x..x.."}, {"x..x.. ..x..x .x..x.", "x..x..", "x.x.x."}, {"x..x.. ..x..x x..x..", "x..x..", "x.xx.."}, {"x..x.. .x..x. .x..x.", "x..x..", "xx..x."}, {"x..x.. x..x.. ..x..x", "x..x..", "x..x.x"}, {"x..x.. x..x.. x..x..", "", ""}, {"x..x.. ..x..x ..x..x x..x..", "", ""}, {"x..x.. ..x..x .x..x. x..x..", "", ""}, {"xx.xx. .xx.xx .xx.xx", "xx.xx.", "xx..x."}, {"x.x.x. x.x.x. x.x.x.", "x.x.x.", "x.x.x."}, {"x.x.x. x.x.x. x.x.x. x.x.x.", "", ""},
		{strings.Repeat("x..", 8) + " " + strings.Repeat(".x.", 8), strings.Repeat("x..", 8), bar(24, 0, 1)}, {strings.Repeat("x..", 8) + " " + strings.Repeat("..x", 8) + " " + strings.Repeat("..x", 8), strings.Repeat("x..", 8), bar(24, 0, 2, 5)}, {bar(24, 0, 12) + " " + bar(24, 0, 12), bar(24, 0, 12), bar(24, 0, 12)}, {bar(24, 0, 12) + " " + bar(24, 11, 23) + " " + bar(24, 11, 23), bar(24, 0, 12), bar(24, 0, 11, 23)}, {bar(24, 0, 12) + " " + bar(24, 11, 23) + " " + bar(24, 11, 23) + " " + bar(24, 0, 12), "", ""},
	} {
		isRead(t, strings.Split(c.lines, " "), c.inner, c.outer)
	}
	for n := 1; n <= 24; n++ {
		isRead(t, slices.Repeat([]string{full(n)}, n), full(n), full(n))
		isRead(t, slices.Repeat([]string{full(n)}, n+1), "", "")
		isRead(t, turnedTexts(bar(n, n-1)), bar(n, n-1), full(n))
		isRead(t, append(turnedTexts(bar(n, n-1)), bar(n, n-1)), "", "")
	}
}

func TestReadCanonOfNoLines(t *testing.T) {
	isRead(t, nil, "", "")
	isRead(t, []string{}, "", "")
	isRead(t, []string{"xx..", ".xx."}[:0], "", "")
	isRead(t, []string{""}, "", "")
	isRead(t, []string{"", ""}, "", "")
}

func TestReadCanonOfManyLines(t *testing.T) {
	for _, line := range []string{"x", "xx..", "x.x.", full(24), "....", "", "none"} {
		isRead(t, slices.Repeat([]string{line}, 100000), "", "")
	}
	isRead(t, []string{strings.Repeat("x", 1000000)}, "", "")
	isRead(t, []string{"x.", strings.Repeat(".x", 1000000)}, "", "")
}

// readTexts has, for the lines of each canon of n pulses whose Outer has a beat on pulse 0, the last text of such an Outer. The last texts come first.
func readTexts(n int) map[string]string {
	texts := textsWithBeats(n)
	slices.Sort(texts)
	slices.Reverse(texts)
	found := map[string]string{}
	for _, inner := range texts {
		for _, outer := range texts {
			lines := strings.Join(voiceTexts(inner, outer), " ")
			if _, ok := found[lines]; !ok && outer[0] == 'x' {
				found[lines] = outer
			}
		}
	}
	return found
}

// TestShortCanonsAreReadAgain goes there and back with each canon, and comes to the same lines, to the same canon if Outer has a beat on pulse 0 and Inner is not periodic, and to a later text of Outer if it is.
func TestShortCanonsAreReadAgain(t *testing.T) {
	for n := 1; n <= 8; n++ {
		found := readTexts(n)
		for _, inner := range textsWithBeats(n) {
			for _, outer := range textsWithBeats(n) {
				isReadAgain(t, inner, outer, found)
			}
		}
	}
}

func isReadAgain(t *testing.T, inner string, outer string, found map[string]string) {
	t.Helper()
	lines := impl.FormatCanon(canonOf(inner, outer))
	read, ok := impl.ReadCanon(lines)
	want := found[strings.Join(lines, " ")]
	label := fmt.Sprintf("ReadCanon of FormatCanon(%q, %q)", inner, outer)
	isCanon(t, label, read, ok, lines[0], want)
	if !slices.Equal(impl.FormatCanon(read), lines) {
		t.Errorf("%s has the lines %q, want %q", label, impl.FormatCanon(read), lines)
	}
	if outer[0] == 'x' && !isPeriodicText(inner) {
		isCanon(t, label, read, ok, inner, outer)
	}
	if outer[0] == 'x' && impl.FormatRhythm(read.Outer) < outer {
		t.Errorf("%s has an Outer before the given one", label)
	}
}

// fromFirstBeat turns a text so that its first beat is on pulse 0.
func fromFirstBeat(text string) string {
	return turnedText(text, (len(text)-placesOf(text)[0])%len(text))
}

func TestLongCanonsAreReadAgain(t *testing.T) {
	for inner, outer := range longCanons {
		lines := impl.FormatCanon(canonOf(inner, outer))
		read, ok := impl.ReadCanon(lines)
		label := fmt.Sprintf("ReadCanon of FormatCanon(%q, %q)", inner, outer)
		isCanon(t, label, read, ok, lines[0], earliestOuter(lines))
		sameTexts(t, "FormatCanon of "+label, impl.FormatCanon(read), lines)
		if !isPeriodicText(inner) {
			isCanon(t, label, read, ok, turnedText(inner, placesOf(outer)[0]), fromFirstBeat(outer))
		}
	}
}

// earliestOuter tries all places for each line, from the last line to the first one: a line may have a place if the next line has a later one. It is empty if there is none.
func earliestOuter(lines []string) string {
	n := len(lines[0])
	var from func(v int, first int) []int
	known := map[[2]int][]int{}
	from = func(v int, first int) []int {
		if v == len(lines) {
			return []int{}
		}
		if places, ok := known[[2]int{v, first}]; ok {
			return places
		}
		var best []int
		for q := n - 1; q >= first; q-- {
			if rest := from(v+1, q+1); rest != nil && turnedText(lines[0], q) == lines[v] {
				best = append([]int{q}, rest...)
			}
		}
		known[[2]int{v, first}] = best
		return best
	}
	return bar(n, from(0, 0)...)
}

// TestReadCanonOfAllLines takes all lists of some lines, of which few are those of a canon.
func TestReadCanonOfAllLines(t *testing.T) {
	found := map[string]string{}
	for n := 1; n <= 5; n++ {
		for lines, outer := range readTexts(n) {
			found[lines] = outer
		}
	}
	short := slices.Concat([]string{""}, textsOfSize(1), textsOfSize(2), textsOfSize(3))
	readAllLists(t, short, 4, found)
	readAllLists(t, textsOfSize(4), 4, found)
	readAllLists(t, textsOfSize(5), 3, found)
	readAllLists(t, []string{"x.x.", ".x.x", "xxxx"}, 6, found)
}

func readAllLists(t *testing.T, texts []string, most int, found map[string]string) {
	t.Helper()
	var read func(lines []string)
	read = func(lines []string) {
		if outer, ok := found[strings.Join(lines, " ")]; ok {
			isRead(t, lines, lines[0], outer)
		} else {
			isRead(t, lines, "", "")
		}
		if len(lines) < most {
			for _, text := range texts {
				read(append(slices.Clone(lines), text))
			}
		}
	}
	read(nil)
}

// canonWithSpare also returns the memory of both rhythms.
func canonWithSpare(c impl.Canon) (impl.Canon, [2][]int) {
	inner, memoryA := withSpare(c.Inner)
	outer, memoryB := withSpare(c.Outer)
	return impl.Canon{Inner: inner, Outer: outer}, [2][]int{memoryA, memoryB}
}

func copiesOf(memory [2][]int) [2][]int {
	return [2][]int{slices.Clone(memory[0]), slices.Clone(memory[1])}
}

func keepsCanon(t *testing.T, label string, memory [2][]int, before [2][]int) {
	t.Helper()
	for i := range memory {
		if !slices.Equal(memory[i], before[i]) {
			t.Errorf("a function of canons changes %s", label)
		}
	}
}

func isNoCanon(t *testing.T, inner impl.Rhythm, outer impl.Rhythm) {
	t.Helper()
	c, memory := canonWithSpare(impl.Canon{Inner: inner, Outer: outer})
	before := copiesOf(memory)
	label := " of " + shortName(inner) + " and " + shortName(outer)
	isBool(t, "CanonOk"+label, impl.CanonOk(c), false)
	isBool(t, "IsTight"+label, impl.IsTight(c), false)
	for _, n := range []int{math.MinInt64, -1000, -1, 0, 1, 3, 1000, math.MaxInt64} {
		sameInts(t, fmt.Sprintf("VoicesAt %d%s", n, label), impl.VoicesAt(c, n), nil)
		voice, ok := impl.VoiceRhythm(c, n)
		isNoRhythm(t, fmt.Sprintf("VoiceRhythm %d%s", n, label), voice, ok)
		stretched, ok := impl.StretchCanon(c, n)
		isCanon(t, fmt.Sprintf("StretchCanon by %d%s", n, label), stretched, ok, "", "")
		turned, ok := impl.RotateCanon(c, n, 0)
		isCanon(t, fmt.Sprintf("RotateCanon by %d and 0%s", n, label), turned, ok, "", "")
		turned, ok = impl.RotateCanon(c, 0, n)
		isCanon(t, fmt.Sprintf("RotateCanon by 0 and %d%s", n, label), turned, ok, "", "")
	}
	sameInts(t, "LineOf"+label, impl.LineOf(c), nil)
	exchanged, ok := impl.ExchangeCanon(c)
	isCanon(t, "ExchangeCanon"+label, exchanged, ok, "", "")
	sameInt(t, "CountClashes"+label, impl.CountClashes(c), -1)
	sameTexts(t, "FormatCanon"+label, impl.FormatCanon(c), nil)
	keepsCanon(t, label, memory, before)
}

func TestInvalidRhythmsMakeNoCanons(t *testing.T) {
	for _, bad := range append(invalidRhythms(), moreInvalidRhythms()...) {
		for _, good := range []string{".", "x", "x.", "xx..", "........", "x.......", "x...x...", full(8), bar(24), bar(24, 5), full(24)} {
			isNoCanon(t, bad, rhythmOfText(good))
			isNoCanon(t, rhythmOfText(good), bad)
		}
		for _, other := range invalidRhythms() {
			isNoCanon(t, bad, other)
		}
		isNoCanon(t, bad, bad)
	}
	isNoCanon(t, impl.Canon{}.Inner, impl.Canon{}.Outer)
}

func TestRhythmsOfDifferentSizesMakeNoCanons(t *testing.T) {
	for a := 1; a <= 24; a++ {
		for b := 1; b <= 24; b++ {
			if a != b {
				isNoCanon(t, rhythmOfMask(a, 1), rhythmOfMask(b, 1))
				isNoCanon(t, rhythmOfMask(a, -1), rhythmOfMask(b, 1))
				isNoCanon(t, rhythmOfMask(a, 1), rhythmOfMask(b, -1))
			}
		}
	}
}

// TestNoCanonsWithoutBeats holds a nil list of beats against an empty one, and against one with memory behind it.
func TestNoCanonsWithoutBeats(t *testing.T) {
	for n := 1; n <= 24; n++ {
		for _, silent := range []impl.Rhythm{{Size: n}, {Size: n, Beats: []int{}}, {Size: n, Beats: []int{0, 0, 7}[:0]}} {
			for _, other := range []string{bar(n, 0), bar(n, n-1), full(n), bar(n)} {
				isNoCanon(t, silent, rhythmOfText(other))
				isNoCanon(t, rhythmOfText(other), silent)
			}
			isNoCanon(t, silent, silent)
		}
	}
}

// canonsForMemory has canons that could be returned as they are, and canons with both rhythms in the same memory.
func canonsForMemory() []impl.Canon {
	var list []impl.Canon
	for _, pair := range [][2]string{{"x", "x"}, {"x.", "xx"}, {"xx..", "x.x."}, {"x.x.", "xx.."}, {"xx..", "xx.."}, {"x...", "x..."}, {"xxxx", "xxxx"}, {"xxxx", "..x."}, {"..x.", "xxxx"}, {"xxx.", "x.x."}, {"x..x..x.", ".x...x.."}, {"xx.....", "x.x...x"}, {"x..x..x..x..", "xx...x......"}, {full(12), bar(12, 7)}, {bar(24, 0, 12), full(12) + bar(12)}, {full(24), full(24)}, {bar(24, 23), bar(24, 0)}} {
		c, _ := canonWithSpare(canonOf(pair[0], pair[1]))
		list = append(list, c, impl.Canon{Inner: c.Inner, Outer: c.Inner}, impl.Canon{Inner: c.Outer, Outer: c.Outer})
	}
	return list
}

// madeCanons has all functions that make a canon of one.
func madeCanons(c impl.Canon) map[string]func() impl.Canon {
	return map[string]func() impl.Canon{
		"ExchangeCanon":                  func() impl.Canon { made, _ := impl.ExchangeCanon(c); return made },
		"StretchCanon by 1":              func() impl.Canon { made, _ := impl.StretchCanon(c, 1); return made },
		"StretchCanon by Size - 1":       func() impl.Canon { made, _ := impl.StretchCanon(c, max(c.Inner.Size-1, 1)); return made },
		"RotateCanon by 0":               func() impl.Canon { made, _ := impl.RotateCanon(c, 0, 0); return made },
		"RotateCanon by 1 and Size":      func() impl.Canon { made, _ := impl.RotateCanon(c, 1, c.Inner.Size); return made },
		"RotateCanon by -1000 and 1000":  func() impl.Canon { made, _ := impl.RotateCanon(c, -1000, 1000); return made },
		"ReadCanon of FormatCanon":       func() impl.Canon { made, _ := impl.ReadCanon(impl.FormatCanon(c)); return made },
		"ReadCanon of one line of Inner": func() impl.Canon { made, _ := impl.ReadCanon([]string{textOf(c.Inner)}); return made },
	}
}

func TestReturnedCanonsAreNew(t *testing.T) {
	for _, c := range canonsForMemory() {
		all := [2][]int{c.Inner.Beats[:cap(c.Inner.Beats)], c.Outer.Beats[:cap(c.Outer.Beats)]}
		before := copiesOf(all)
		name := fmt.Sprintf("(%q, %q)", textOf(c.Inner), textOf(c.Outer))
		for label, made := range madeCanons(c) {
			isNewMemory(t, "the Inner of "+label+" "+name, func() impl.Rhythm { return made().Inner })
			isNewMemory(t, "the Outer of "+label+" "+name, func() impl.Rhythm { return made().Outer })
			haveTwoMemories(t, label+" "+name, made)
			keepsCanon(t, name+" by "+label, all, before)
		}
	}
}

// haveTwoMemories overwrites the one rhythm of a result; the other one must keep its beats.
func haveTwoMemories(t *testing.T, label string, made func() impl.Canon) {
	t.Helper()
	want, first, second := made(), made(), made()
	spoil(first.Inner)
	isRhythm(t, "the Outer of "+label+" after its Inner was changed", first.Outer, true, want.Outer)
	spoil(second.Outer)
	isRhythm(t, "the Inner of "+label+" after its Outer was changed", second.Inner, true, want.Inner)
}

func TestReturnedVoicesAreNew(t *testing.T) {
	for _, c := range canonsForMemory() {
		all := [2][]int{c.Inner.Beats[:cap(c.Inner.Beats)], c.Outer.Beats[:cap(c.Outer.Beats)]}
		before := copiesOf(all)
		name := fmt.Sprintf("(%q, %q)", textOf(c.Inner), textOf(c.Outer))
		isNewList(t, "LineOf "+name, func() []int { return impl.LineOf(c) })
		for n := range c.Inner.Size {
			isNewList(t, fmt.Sprintf("VoicesAt %s, pulse %d", name, n), func() []int { return impl.VoicesAt(c, n) })
			if n < len(c.Outer.Beats) {
				isNewMemory(t, fmt.Sprintf("VoiceRhythm %s, voice %d", name, n), func() impl.Rhythm { r, _ := impl.VoiceRhythm(c, n); return r })
			}
		}
		impl.CanonOk(c)
		impl.IsTight(c)
		impl.CountClashes(c)
		keepsCanon(t, name, all, before)
	}
}

func TestReturnedLinesAreNew(t *testing.T) {
	for _, c := range canonsForMemory() {
		all := [2][]int{c.Inner.Beats[:cap(c.Inner.Beats)], c.Outer.Beats[:cap(c.Outer.Beats)]}
		before := copiesOf(all)
		kept := impl.FormatCanon(c)
		want := slices.Clone(kept)
		spoiled := impl.FormatCanon(c)
		clear(spoiled[:cap(spoiled)])
		name := fmt.Sprintf("(%q, %q)", textOf(c.Inner), textOf(c.Outer))
		sameTexts(t, "FormatCanon "+name+" after another result was changed", kept, want)
		sameTexts(t, "FormatCanon "+name+" once more", impl.FormatCanon(c), want)
		keepsCanon(t, name, all, before)
	}
}

// TestReadingKeepsLines has lines of canons and others, with lines behind them.
func TestReadingKeepsLines(t *testing.T) {
	for _, lines := range [][]string{nil, {"x"}, {""}, {"...."}, {"xx..", "..xx"}, {"xx..", "..xx", ".xx."}, {"x.x.", "x.x."}, {"x.x.", ".x.x", ".x.x"}, {"xx..", "none"}, {full(24), full(24), full(24)}} {
		memory := append(slices.Clone(lines), ".xx.", "x.x.", "x")
		before := slices.Clone(memory)
		c, ok := impl.ReadCanon(memory[:len(lines)])
		sameTexts(t, fmt.Sprintf("the lines %q after ReadCanon", lines), memory, before)
		if ok {
			want := earliestOuter(lines)
			clear(memory)
			isCanon(t, fmt.Sprintf("ReadCanon(%q) after the lines were changed", lines), c, ok, before[0], want)
		}
	}
}

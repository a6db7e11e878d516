package tests

import (
	"fmt"
	"math"
	"math/big"
	"math/rand/v2"
	"slices"
	"strings"
	"testing"

	"loop.example/g03204/impl"
)

// rhythmOfMask has a beat on each pulse whose bit is set.
func rhythmOfMask(size int, mask int) impl.Rhythm {
	r := impl.Rhythm{Size: size}
	for p := range size {
		if mask>>p&1 == 1 {
			r.Beats = append(r.Beats, p)
		}
	}
	return r
}

func allRhythmsOf(size int) []impl.Rhythm {
	var list []impl.Rhythm
	for mask := range 1 << size {
		list = append(list, rhythmOfMask(size, mask))
	}
	return list
}

func randomRhythm(random *rand.Rand, size int) impl.Rhythm {
	return rhythmOfMask(size, random.IntN(1<<size))
}

// manyRhythms has all short rhythms, and of every greater Size those without beats, with all beats and some others.
func manyRhythms() []impl.Rhythm {
	var list []impl.Rhythm
	for size := 1; size <= 8; size++ {
		list = append(list, allRhythmsOf(size)...)
	}
	random := newRandom()
	for size := 9; size <= 24; size++ {
		list = append(list, rhythmOfMask(size, 0), rhythmOfMask(size, -1), rhythmOfMask(size, 1<<(size-1)))
		for range 20 {
			list = append(list, randomRhythm(random, size))
		}
	}
	return list
}

func invalidRhythms() []impl.Rhythm {
	return []impl.Rhythm{
		{},
		{Size: 0, Beats: []int{0}},
		{Size: -1},
		{Size: -8, Beats: []int{0, 3, 6}},
		{Size: 25},
		{Size: 25, Beats: []int{0}},
		{Size: 1000},
		{Size: math.MaxInt64},
		{Size: math.MaxInt64, Beats: []int{0, 1}},
		{Size: math.MinInt64},
		{Size: math.MinInt64, Beats: []int{0}},
		{Size: 1, Beats: []int{-1}},
		{Size: 1, Beats: []int{1}},
		{Size: 1, Beats: []int{0, 0}},
		{Size: 1, Beats: []int{0, 1}},
		{Size: 8, Beats: []int{-1}},
		{Size: 8, Beats: []int{-1, 0}},
		{Size: 8, Beats: []int{8}},
		{Size: 8, Beats: []int{0, 3, 8}},
		{Size: 8, Beats: []int{0, 3, 9}},
		{Size: 8, Beats: []int{0, 8, 3}},
		{Size: 8, Beats: []int{3, 3}},
		{Size: 8, Beats: []int{0, 0, 3}},
		{Size: 8, Beats: []int{0, 6, 6}},
		{Size: 8, Beats: []int{3, 0}},
		{Size: 8, Beats: []int{0, 6, 3}},
		{Size: 8, Beats: []int{0, 3, 2, 6}},
		{Size: 8, Beats: []int{math.MinInt64}},
		{Size: 8, Beats: []int{math.MinInt64, 0}},
		{Size: 8, Beats: []int{math.MaxInt64}},
		{Size: 8, Beats: []int{0, math.MaxInt64}},
		{Size: 24, Beats: []int{24}},
		{Size: 24, Beats: []int{23, 24}},
		{Size: 24, Beats: append(rhythmOfMask(24, -1).Beats, 24)},
		{Size: 24, Beats: make([]int, 100000)},
	}
}

// extremes are numbers that no limit of a chapter comes near to.
func extremes() []int {
	return []int{math.MinInt64, math.MinInt64 + 1, math.MinInt32, math.MaxInt32, math.MaxInt64 - 1, math.MaxInt64}
}

// remainder is the one from 0 on, also for a negative k.
func remainder(k int, n int) int {
	return int(new(big.Int).Mod(big.NewInt(int64(k)), big.NewInt(int64(n))).Int64())
}

// placed has a beat on the remainder of place(p) for each beat p of r.
func placed(r impl.Rhythm, place func(p int) int) impl.Rhythm {
	mask := 0
	for _, p := range r.Beats {
		mask |= 1 << remainder(place(p), r.Size)
	}
	return rhythmOfMask(r.Size, mask)
}

func textOf(r impl.Rhythm) string {
	text := ""
	for p := range r.Size {
		if slices.Contains(r.Beats, p) {
			text += "x"
		} else {
			text += "."
		}
	}
	return text
}

func equalRhythms(a impl.Rhythm, b impl.Rhythm) bool {
	return a.Size == b.Size && slices.Equal(a.Beats, b.Beats)
}

func isRhythm(t *testing.T, label string, got impl.Rhythm, ok bool, want impl.Rhythm) {
	t.Helper()
	if !ok || !equalRhythms(got, want) {
		t.Errorf("%s = %v, %t, want %v, true", label, got, ok, want)
	}
}

func isNoRhythm(t *testing.T, label string, got impl.Rhythm, ok bool) {
	t.Helper()
	if ok || !equalRhythms(got, impl.Rhythm{}) {
		t.Errorf("%s = %v, %t, want the zero value, false", label, got, ok)
	}
}

func TestRhythmOk(t *testing.T) {
	for _, r := range manyRhythms() {
		if !impl.RhythmOk(r) {
			t.Errorf("RhythmOk(%v) is false", r)
		}
	}
	for _, r := range invalidRhythms() {
		if impl.RhythmOk(r) {
			t.Errorf("RhythmOk of Size %d and %d beats is true", r.Size, len(r.Beats))
		}
	}
	for size := -30; size <= 60; size++ {
		if got, want := impl.RhythmOk(impl.Rhythm{Size: size}), size >= 1 && size <= 24; got != want {
			t.Errorf("RhythmOk of Size %d without beats is %t", size, got)
		}
	}
}

func TestRhythmOkOfAllShortLists(t *testing.T) {
	for size := 1; size <= 3; size++ {
		for a := -1; a <= 4; a++ {
			for b := -1; b <= 4; b++ {
				for c := -1; c <= 4; c++ {
					r := impl.Rhythm{Size: size, Beats: []int{a, b, c}}
					want := 0 <= a && a < b && b < c && c < size
					if got := impl.RhythmOk(r); got != want {
						t.Errorf("RhythmOk(%v) = %t, want %t", r, got, want)
					}
				}
			}
		}
	}
}

func TestHasBeat(t *testing.T) {
	for _, r := range manyRhythms() {
		pulses := append(extremes(), -1001, -1000, 1000, 1001)
		for k := -2*r.Size - 1; k <= 2*r.Size+1; k++ {
			pulses = append(pulses, k)
		}
		for _, k := range pulses {
			want := slices.Contains(r.Beats, remainder(k, r.Size))
			if got := impl.HasBeat(r, k); got != want {
				t.Errorf("HasBeat(%v, %d) = %t, want %t", r, k, got, want)
			}
		}
	}
}

func TestHasBeatOfAnInvalidRhythm(t *testing.T) {
	for _, r := range invalidRhythms() {
		for _, k := range append(extremes(), -9, -1, 0, 1, 2, 3, 6, 8) {
			if impl.HasBeat(r, k) {
				t.Errorf("HasBeat of Size %d at %d is true, though the rhythm is not valid", r.Size, k)
			}
		}
	}
}

func TestCountBeats(t *testing.T) {
	for _, r := range manyRhythms() {
		if got := impl.CountBeats(r); got != len(r.Beats) {
			t.Errorf("CountBeats(%v) = %d", r, got)
		}
	}
	for _, r := range invalidRhythms() {
		if got := impl.CountBeats(r); got != -1 {
			t.Errorf("CountBeats of an invalid rhythm of Size %d = %d, want -1", r.Size, got)
		}
	}
}

func TestRotateRhythm(t *testing.T) {
	for _, r := range manyRhythms() {
		turns := []int{-1000, -999, -100, 100, 999, 1000}
		for k := -r.Size - 1; k <= r.Size+1; k++ {
			turns = append(turns, k)
		}
		for _, k := range turns {
			got, ok := impl.RotateRhythm(r, k)
			want := placed(r, func(p int) int { return p + k })
			isRhythm(t, fmt.Sprintf("RotateRhythm(%v, %d)", r, k), got, ok, want)
		}
	}
}

func TestRotateRhythmByEachNumber(t *testing.T) {
	for _, text := range []string{"x", ".", "x..x..x.", "xx.x......x", "x.x.xx......x...x.......", strings.Repeat("x", 24)} {
		r, _ := impl.ParseRhythm(text)
		for k := -1000; k <= 1000; k++ {
			got, ok := impl.RotateRhythm(r, k)
			isRhythm(t, fmt.Sprintf("RotateRhythm(%q, %d)", text, k), got, ok, placed(r, func(p int) int { return p + k }))
			back, ok := impl.RotateRhythm(got, -k)
			isRhythm(t, fmt.Sprintf("%q rotated by %d and back", text, k), back, ok, r)
		}
	}
}

func TestRotateRhythmRefuses(t *testing.T) {
	for _, r := range manyRhythms() {
		for _, k := range append(extremes(), -1002, -1001, 1001, 1002) {
			got, ok := impl.RotateRhythm(r, k)
			isNoRhythm(t, fmt.Sprintf("RotateRhythm(%v, %d)", r, k), got, ok)
		}
	}
	for _, r := range invalidRhythms() {
		for _, k := range append(extremes(), -1000, -1, 0, 1, 8, 1000) {
			got, ok := impl.RotateRhythm(r, k)
			isNoRhythm(t, fmt.Sprintf("RotateRhythm of Size %d, not valid, by %d", r.Size, k), got, ok)
		}
	}
}

func TestMirrorRhythm(t *testing.T) {
	for _, r := range manyRhythms() {
		got, ok := impl.MirrorRhythm(r)
		isRhythm(t, fmt.Sprintf("MirrorRhythm(%v)", r), got, ok, placed(r, func(p int) int { return -p }))
		back, ok := impl.MirrorRhythm(got)
		isRhythm(t, fmt.Sprintf("%v mirrored twice", r), back, ok, r)
	}
	for _, r := range invalidRhythms() {
		got, ok := impl.MirrorRhythm(r)
		isNoRhythm(t, fmt.Sprintf("MirrorRhythm of Size %d, not valid", r.Size), got, ok)
	}
}

func TestOtherRhythm(t *testing.T) {
	for _, r := range manyRhythms() {
		mask := 0
		for p := range r.Size {
			if !slices.Contains(r.Beats, p) {
				mask |= 1 << p
			}
		}
		got, ok := impl.OtherRhythm(r)
		isRhythm(t, fmt.Sprintf("OtherRhythm(%v)", r), got, ok, rhythmOfMask(r.Size, mask))
		back, ok := impl.OtherRhythm(got)
		isRhythm(t, fmt.Sprintf("the other rhythm of the other one of %v", r), back, ok, r)
	}
	for _, r := range invalidRhythms() {
		got, ok := impl.OtherRhythm(r)
		isNoRhythm(t, fmt.Sprintf("OtherRhythm of Size %d, not valid", r.Size), got, ok)
	}
}

// mayStretch tries each number that could divide both, instead of computing the greatest one.
func mayStretch(u int, size int) bool {
	if size == 1 {
		return u == 1
	}
	if u < 1 || u >= size {
		return false
	}
	for d := 2; d <= u; d++ {
		if u%d == 0 && size%d == 0 {
			return false
		}
	}
	return true
}

func TestStretchRhythm(t *testing.T) {
	for _, r := range manyRhythms() {
		factors := append(extremes(), -r.Size-1, -r.Size, -r.Size+1, 2*r.Size-1, 2*r.Size+1)
		for u := -2; u <= r.Size+2; u++ {
			factors = append(factors, u)
		}
		for _, u := range factors {
			got, ok := impl.StretchRhythm(r, u)
			label := fmt.Sprintf("StretchRhythm(%v, %d)", r, u)
			if mayStretch(u, r.Size) {
				isRhythm(t, label, got, ok, placed(r, func(p int) int { return u * p }))
			} else {
				isNoRhythm(t, label, got, ok)
			}
		}
	}
	for _, r := range invalidRhythms() {
		for _, u := range append(extremes(), -1, 0, 1, 3, 7, 23) {
			got, ok := impl.StretchRhythm(r, u)
			isNoRhythm(t, fmt.Sprintf("StretchRhythm of Size %d, not valid, by %d", r.Size, u), got, ok)
		}
	}
}

func TestStretchRhythmEdges(t *testing.T) {
	for _, c := range []struct {
		text string
		u    int
		want string
	}{
		{"x..x..x.", 1, "x..x..x."}, {"x..x..x.", 3, "xxx....."}, {"x..x..x.", 7, "x.x..x.."},
		{"x..x..x.", 0, ""}, {"x..x..x.", 2, ""}, {"x..x..x.", 6, ""}, {"x..x..x.", 8, ""}, {"x..x..x.", 9, ""}, {"x..x..x.", -1, ""},
		{"x", 1, "x"}, {".", 1, "."}, {"x", 0, ""}, {"x", 2, ""}, {"x", -1, ""}, {".", 0, ""},
		{".x", 1, ".x"}, {".x", 2, ""}, {".x", 3, ""},
		{"xx...", 4, "x...x"}, {"xx...", 2, "x.x.."},
		{".x......................", 23, ".......................x"}, {".x......................", 24, ""}, {".x......................", 9, ""},
	} {
		r, _ := impl.ParseRhythm(c.text)
		got, ok := impl.StretchRhythm(r, c.u)
		if textOf(got) != c.want || ok != (c.want != "") {
			t.Errorf("StretchRhythm(%q, %d) = %v, %t, want %q", c.text, c.u, got, ok, c.want)
		}
	}
}

func joined(a impl.Rhythm, b impl.Rhythm) impl.Rhythm {
	mask := 0
	for _, p := range slices.Concat(a.Beats, b.Beats) {
		mask |= 1 << p
	}
	return rhythmOfMask(a.Size, mask)
}

func TestJoinRhythms(t *testing.T) {
	check := func(a impl.Rhythm, b impl.Rhythm) {
		got, ok := impl.JoinRhythms(a, b)
		isRhythm(t, fmt.Sprintf("JoinRhythms(%v, %v)", a, b), got, ok, joined(a, b))
	}
	for size := 1; size <= 5; size++ {
		for _, a := range allRhythmsOf(size) {
			for _, b := range allRhythmsOf(size) {
				check(a, b)
			}
		}
	}
	random := newRandom()
	for range samples {
		size := 6 + random.IntN(19)
		check(randomRhythm(random, size), randomRhythm(random, size))
	}
	check(rhythmOfMask(24, 0), rhythmOfMask(24, -1))
	check(rhythmOfMask(24, -1), rhythmOfMask(24, -1))
	check(rhythmOfMask(24, 0), rhythmOfMask(24, 0))
}

func TestJoinRhythmsRefuses(t *testing.T) {
	for a := 1; a <= 24; a++ {
		for b := 1; b <= 24; b++ {
			if a != b {
				got, ok := impl.JoinRhythms(rhythmOfMask(a, 1), rhythmOfMask(b, 1))
				isNoRhythm(t, fmt.Sprintf("JoinRhythms of Sizes %d and %d", a, b), got, ok)
			}
		}
	}
	for _, bad := range invalidRhythms() {
		for _, good := range []impl.Rhythm{rhythmOfMask(1, 1), rhythmOfMask(8, 73), rhythmOfMask(24, 0)} {
			got, ok := impl.JoinRhythms(bad, good)
			isNoRhythm(t, fmt.Sprintf("JoinRhythms of Size %d, not valid, and %v", bad.Size, good), got, ok)
			got, ok = impl.JoinRhythms(good, bad)
			isNoRhythm(t, fmt.Sprintf("JoinRhythms of %v and Size %d, not valid", good, bad.Size), got, ok)
		}
		got, ok := impl.JoinRhythms(bad, bad)
		isNoRhythm(t, fmt.Sprintf("JoinRhythms of Size %d, not valid, with itself", bad.Size), got, ok)
	}
}

func TestRepeatRhythm(t *testing.T) {
	for _, r := range manyRhythms() {
		for k := -2; k <= 26; k++ {
			got, ok := impl.RepeatRhythm(r, k)
			label := fmt.Sprintf("RepeatRhythm(%v, %d)", r, k)
			if k < 1 || k*r.Size > 24 {
				isNoRhythm(t, label, got, ok)
				continue
			}
			want := impl.Rhythm{Size: k * r.Size}
			for p := range want.Size {
				if slices.Contains(r.Beats, p%r.Size) {
					want.Beats = append(want.Beats, p)
				}
			}
			isRhythm(t, label, got, ok, want)
		}
	}
}

func TestRepeatRhythmRefuses(t *testing.T) {
	for _, r := range []impl.Rhythm{rhythmOfMask(1, 1), rhythmOfMask(2, 0), rhythmOfMask(8, 73), rhythmOfMask(16, -1), rhythmOfMask(24, 1)} {
		// k * Size wraps around to a small number, or to 0, for these.
		wraps := []int{1 << 60, 1 << 61, 1 << 62, 1<<61 + 1, math.MinInt64 / 8, math.MinInt64/8 + 1}
		for _, k := range append(extremes(), wraps...) {
			got, ok := impl.RepeatRhythm(r, k)
			isNoRhythm(t, fmt.Sprintf("RepeatRhythm(%v, %d)", r, k), got, ok)
		}
	}
	for _, r := range invalidRhythms() {
		for _, k := range append(extremes(), -1, 0, 1, 2, 3) {
			got, ok := impl.RepeatRhythm(r, k)
			isNoRhythm(t, fmt.Sprintf("RepeatRhythm of Size %d, not valid, %d times", r.Size, k), got, ok)
		}
	}
}

func TestSameRhythm(t *testing.T) {
	var list []impl.Rhythm
	for size := 1; size <= 5; size++ {
		list = append(list, allRhythmsOf(size)...)
	}
	list = append(list, rhythmOfMask(24, 0), rhythmOfMask(24, -1), rhythmOfMask(24, 1<<23))
	for i, a := range list {
		for j, b := range list {
			copied := impl.Rhythm{Size: b.Size, Beats: slices.Clone(b.Beats)}
			if got := impl.SameRhythm(a, copied); got != (i == j) {
				t.Errorf("SameRhythm(%v, %v) = %t", a, b, got)
			}
		}
	}
	if !impl.SameRhythm(impl.Rhythm{Size: 3}, impl.Rhythm{Size: 3, Beats: []int{}}) {
		t.Error("SameRhythm tells a nil list from an empty one")
	}
}

func TestSameRhythmOfInvalidRhythms(t *testing.T) {
	for _, bad := range invalidRhythms() {
		good := rhythmOfMask(8, 73)
		if impl.SameRhythm(bad, bad) || impl.SameRhythm(bad, good) || impl.SameRhythm(good, bad) {
			t.Errorf("SameRhythm of Size %d, not valid, is true", bad.Size)
		}
	}
}

func TestFormatRhythm(t *testing.T) {
	for _, r := range manyRhythms() {
		if got, want := impl.FormatRhythm(r), textOf(r); got != want {
			t.Errorf("FormatRhythm(%v) = %q, want %q", r, got, want)
		}
	}
	for _, r := range invalidRhythms() {
		if got := impl.FormatRhythm(r); got != "" {
			t.Errorf("FormatRhythm of an invalid rhythm of Size %d = %q", r.Size, got)
		}
	}
}

func TestParseRhythmRecoversFormatRhythm(t *testing.T) {
	for _, r := range manyRhythms() {
		got, ok := impl.ParseRhythm(impl.FormatRhythm(r))
		isRhythm(t, fmt.Sprintf("ParseRhythm(FormatRhythm(%v))", r), got, ok, r)
	}
	for text, want := range map[string]impl.Rhythm{
		"x":                             {Size: 1, Beats: []int{0}},
		".":                             {Size: 1},
		"x..x..x.":                      {Size: 8, Beats: []int{0, 3, 6}},
		".......x":                      {Size: 8, Beats: []int{7}},
		strings.Repeat(".", 24):         {Size: 24},
		strings.Repeat("x", 24):         rhythmOfMask(24, -1),
		strings.Repeat(".", 23) + "x":   {Size: 24, Beats: []int{23}},
		"xx" + strings.Repeat("..", 11): {Size: 24, Beats: []int{0, 1}},
	} {
		got, ok := impl.ParseRhythm(text)
		isRhythm(t, fmt.Sprintf("ParseRhythm(%q)", text), got, ok, want)
	}
}

func TestParseRhythmRefuses(t *testing.T) {
	for _, text := range []string{
		"", " ", "o", "X", "xo", "ox", "x.X", "x,x", "x x", " x", "x ", "x\n", "\nx", "x-x", "x..x..x.\n", "10010010", "none",
		strings.Repeat("x", 25), strings.Repeat(".", 25), strings.Repeat("x.", 12) + "x", strings.Repeat("x", 23) + "o",
		strings.Repeat("x", 24) + "\n", strings.Repeat("x.", 5000), strings.Repeat("x", 256), strings.Repeat(".", 281),
		"\u00d7", "x\u00d7", "\u2026", "x\u00b7x", "\uff58", "\uff0e", "\xff", "x\xff", "\xf8", "\xae", "x\x00", "\x00",
	} {
		got, ok := impl.ParseRhythm(text)
		isNoRhythm(t, fmt.Sprintf("ParseRhythm(%q)", text), got, ok)
	}
	for c := range 256 {
		if c == 'x' || c == '.' {
			continue
		}
		s := string([]byte{byte(c)})
		for _, text := range []string{s, s + "x", "x" + s, "." + s + ".", strings.Repeat(".", 23) + s} {
			got, ok := impl.ParseRhythm(text)
			isNoRhythm(t, fmt.Sprintf("ParseRhythm(%q)", text), got, ok)
		}
	}
}

func TestOnlyFormattedTextsAreRhythms(t *testing.T) {
	random := newRandom()
	for range 5 * samples {
		text := randomText(random, "xxxxxxxx.........o", 27)
		r, ok := impl.ParseRhythm(text)
		want := text != "" && len(text) <= 24 && strings.Trim(text, "x.") == ""
		if ok != want || impl.FormatRhythm(r) != text && ok || !ok && !equalRhythms(r, impl.Rhythm{}) {
			t.Errorf("ParseRhythm(%q) = %v, %t", text, r, ok)
		}
	}
}

// makers are all the functions of a rhythm that return one, each with arguments that give back the same beats where it can.
func makers() map[string]func(impl.Rhythm) (impl.Rhythm, bool) {
	return map[string]func(impl.Rhythm) (impl.Rhythm, bool){
		"RotateRhythm by 0":         func(r impl.Rhythm) (impl.Rhythm, bool) { return impl.RotateRhythm(r, 0) },
		"RotateRhythm by 1":         func(r impl.Rhythm) (impl.Rhythm, bool) { return impl.RotateRhythm(r, 1) },
		"RotateRhythm by Size":      func(r impl.Rhythm) (impl.Rhythm, bool) { return impl.RotateRhythm(r, r.Size) },
		"MirrorRhythm":              impl.MirrorRhythm,
		"OtherRhythm":               impl.OtherRhythm,
		"StretchRhythm by 1":        func(r impl.Rhythm) (impl.Rhythm, bool) { return impl.StretchRhythm(r, 1) },
		"StretchRhythm by Size - 1": func(r impl.Rhythm) (impl.Rhythm, bool) { return impl.StretchRhythm(r, max(r.Size-1, 1)) },
		"JoinRhythms with itself":   func(r impl.Rhythm) (impl.Rhythm, bool) { return impl.JoinRhythms(r, r) },
		"JoinRhythms with no beats": func(r impl.Rhythm) (impl.Rhythm, bool) { return impl.JoinRhythms(r, impl.Rhythm{Size: r.Size}) },
		"JoinRhythms of no beats":   func(r impl.Rhythm) (impl.Rhythm, bool) { return impl.JoinRhythms(impl.Rhythm{Size: r.Size}, r) },
		"RepeatRhythm once":         func(r impl.Rhythm) (impl.Rhythm, bool) { return impl.RepeatRhythm(r, 1) },
		"RepeatRhythm twice":        func(r impl.Rhythm) (impl.Rhythm, bool) { return impl.RepeatRhythm(r, 2) },
	}
}

// withSpare gives the beats of r a memory that goes on behind them.
func withSpare(r impl.Rhythm) (impl.Rhythm, []int) {
	memory := append(slices.Clone(r.Beats), 77, 78, 79)
	return impl.Rhythm{Size: r.Size, Beats: memory[:len(r.Beats)]}, memory
}

// spoil overwrites the beats and all the memory behind them.
func spoil(r impl.Rhythm) {
	all := r.Beats[:cap(r.Beats)]
	for i := range all {
		all[i] = -5
	}
}

func TestReturnedRhythmsAreNew(t *testing.T) {
	for _, text := range []string{"x", ".", "xx", "x..x..x.", "xxxx", ".x.x.x", "x.....x....x", strings.Repeat("x", 24), strings.Repeat(".", 24)} {
		original, _ := impl.ParseRhythm(text)
		for name, made := range makers() {
			r, memory := withSpare(original)
			before := slices.Clone(memory)
			first, ok := made(r)
			kept := impl.Rhythm{Size: first.Size, Beats: slices.Clone(first.Beats)}
			second, _ := made(r)
			spoil(second)
			if !slices.Equal(memory, before) {
				t.Errorf("%s changes %q, or returns memory of it: %v", name, text, memory)
			}
			if !equalRhythms(first, kept) {
				t.Errorf("%s returns the same memory twice for %q", name, text)
			}
			third, again := made(r)
			if again != ok || !equalRhythms(third, kept) {
				t.Errorf("%s of %q is %v after an earlier result was changed, and was %v", name, text, third, kept)
			}
		}
	}
}

func TestJoinRhythmsKeepsBoth(t *testing.T) {
	a, memoryA := withSpare(rhythmOfMask(8, 0b11))
	b, memoryB := withSpare(rhythmOfMask(8, 0b1110))
	beforeA, beforeB := slices.Clone(memoryA), slices.Clone(memoryB)
	got, _ := impl.JoinRhythms(a, b)
	spoil(got)
	got, _ = impl.JoinRhythms(b, a)
	spoil(got)
	if !slices.Equal(memoryA, beforeA) || !slices.Equal(memoryB, beforeB) {
		t.Errorf("JoinRhythms changes its arguments to %v and %v", memoryA, memoryB)
	}
}

func TestAskingKeepsRhythms(t *testing.T) {
	r, memory := withSpare(rhythmOfMask(8, 73))
	before := slices.Clone(memory)
	impl.RhythmOk(r)
	impl.HasBeat(r, -2)
	impl.CountBeats(r)
	impl.SameRhythm(r, r)
	impl.FormatRhythm(r)
	if !slices.Equal(memory, before) {
		t.Errorf("the beats are %v after the questions, and were %v", memory, before)
	}
}

func TestInvalidRhythmsAreKept(t *testing.T) {
	for _, bad := range invalidRhythms() {
		for name, made := range makers() {
			r, memory := withSpare(bad)
			before := slices.Clone(memory)
			got, ok := made(r)
			isNoRhythm(t, fmt.Sprintf("%s of Size %d, not valid", name, bad.Size), got, ok)
			if !slices.Equal(memory, before) {
				t.Errorf("%s changes an invalid rhythm of Size %d", name, bad.Size)
			}
		}
	}
}

func TestParsedRhythmsAreNew(t *testing.T) {
	first, _ := impl.ParseRhythm("x..x..x.")
	spoil(first)
	second, ok := impl.ParseRhythm("x..x..x.")
	isRhythm(t, "ParseRhythm after an earlier result was changed", second, ok, impl.Rhythm{Size: 8, Beats: []int{0, 3, 6}})
}

package tests

import (
	"fmt"
	"math"
	"math/bits"
	"math/rand/v2"
	"slices"
	"strings"
	"sync"
	"testing"
	"testing/synctest"

	"loop.example/g03204/impl"
)

// The expected values of this file are made of texts and of numbers: the one text is laid over itself, turned by each place of the other one.

func textSums(a string, b string) []int {
	counts := zeros(len(a))
	for _, q := range placesOf(b) {
		for _, p := range placesOf(turnedText(a, q)) {
			counts[p]++
		}
	}
	return counts
}

func textsTile(a string, b string) bool { return slices.Equal(textSums(a, b), ones(len(a))) }

func isPeriodicText(text string) bool { return textPeriod(text) < len(text) }

func placesWith(list []int, fits func(n int) bool) []int {
	var places []int
	for p, n := range list {
		if fits(n) {
			places = append(places, p)
		}
	}
	return places
}

// isSummed checks all functions that go back to the counts, for a and b and for b and a.
func isSummed(t *testing.T, a string, b string, counts []int) {
	t.Helper()
	sum := rhythmOfText(bar(len(a), placesWith(counts, func(n int) bool { return n > 0 })...))
	gaps := placesWith(counts, func(n int) bool { return n == 0 })
	direct := slices.Max(counts) <= 1
	for _, pair := range [][2]string{{a, b}, {b, a}} {
		x, y := rhythmOfText(pair[0]), rhythmOfText(pair[1])
		label := fmt.Sprintf("(%q, %q)", pair[0], pair[1])
		sameInts(t, "SumCounts"+label, impl.SumCounts(x, y), counts)
		got, ok := impl.SumRhythm(x, y)
		isRhythm(t, "SumRhythm"+label, got, ok, sum)
		sameInts(t, "GapsIn"+label, impl.GapsIn(x, y), gaps)
		isBool(t, "IsDirect"+label, impl.IsDirect(x, y), direct)
		isBool(t, "IsTiling"+label, impl.IsTiling(x, y), direct && len(gaps) == 0)
	}
}

func TestSumsOfAllShortRhythms(t *testing.T) {
	for n := 1; n <= 6; n++ {
		for _, a := range textsOfSize(n) {
			for _, b := range textsOfSize(n) {
				isSummed(t, a, b, textSums(a, b))
			}
		}
	}
}

// TestSumsOfLongRhythms takes few beats for many of the rhythms, because the sums of others are seldom direct.
func TestSumsOfLongRhythms(t *testing.T) {
	random := newRandom()
	for n := 7; n <= 24; n++ {
		for range 150 {
			a, b := textWithBeats(random, n, random.IntN(n+1)), textWithBeats(random, n, random.IntN(n+1))
			isSummed(t, a, b, textSums(a, b))
			a, b = textWithBeats(random, n, random.IntN(4)), textWithBeats(random, n, random.IntN(4))
			isSummed(t, a, b, textSums(a, b))
		}
	}
}

func textWithBeats(random *rand.Rand, n int, k int) string { return bar(n, random.Perm(n)[:k]...) }

func TestSums(t *testing.T) {
	for _, c := range []struct {
		a      string
		b      string
		counts []int
	}{
		// No beats in a, in b, and in both.
		{".", ".", []int{0}}, {"x", ".", []int{0}}, {"..", "x.", zeros(2)}, {"..", "..", zeros(2)}, {"....", "xxxx", zeros(4)}, {bar(24), full(24), zeros(24)}, {bar(24), bar(24), zeros(24)},
		// One beat turns the other rhythm.
		{"x", "x", []int{1}}, {"x.", "x.", []int{1, 0}}, {".x", "x.", []int{0, 1}}, {".x", ".x", []int{1, 0}}, {"x...", "xx..", []int{1, 1, 0, 0}}, {".x..", "x..x", []int{1, 1, 0, 0}}, {"...x", "...x", []int{0, 0, 1, 0}}, {bar(24, 23), bar(24, 23), append(zeros(22), 1, 0)}, {bar(24, 20), bar(24, 3, 4, 5), append([]int{1, 1}, append(zeros(21), 1)...)},
		// A beat on every pulse.
		{"xx", "x.", ones(2)}, {"xx", "xx", times(2, 2)}, {"xxx", ".x.", ones(3)}, {"xxx", "x.x", times(2, 3)}, {"xxxx", "xxxx", times(4, 4)}, {full(24), bar(24, 7), ones(24)}, {full(24), bar(24, 0, 5, 23), times(3, 24)}, {full(24), full(24), times(24, 24)},
		// Direct sums with gaps.
		{"x.x.", "x...", []int{1, 0, 1, 0}}, {"xx...", "x.x..", []int{1, 1, 1, 1, 0}}, {"xx......", "x..x....", []int{1, 1, 0, 1, 1, 0, 0, 0}}, {".x..x...", "x.x.....", []int{0, 1, 0, 1, 1, 0, 1, 0}}, {"xxx.........", "x..x....x...", []int{1, 1, 1, 1, 1, 1, 0, 0, 1, 1, 1, 0}}, {bar(13, 0, 5), bar(13, 0, 1), []int{1, 1, 0, 0, 0, 1, 1, 0, 0, 0, 0, 0, 0}},
		// Others with gaps.
		{"xx..", "xx..", []int{1, 2, 1, 0}}, {"x.x.", "x.x.", []int{2, 0, 2, 0}}, {"x..x..x.", "x..x..x.", []int{1, 2, 0, 2, 1, 0, 3, 0}}, {"xx.x....", "xx......", []int{1, 2, 1, 1, 1, 0, 0, 0}}, {"x..x..x..x..", ".x..x..x....", []int{0, 3, 0, 0, 3, 0, 0, 3, 0, 0, 3, 0}}, {"x..x..x..x..", "xx.......x..", []int{2, 1, 0, 2, 1, 0, 2, 1, 0, 2, 1, 0}}, {bar(24, 0, 12), bar(24, 0, 12), append(append([]int{2}, zeros(11)...), append([]int{2}, zeros(11)...)...)},
		// Sums that are not direct, and have no gaps.
		{"xx.", "xx.", []int{1, 2, 1}}, {"xxx.", "x.x.", []int{2, 1, 2, 1}}, {"x.x.", "xxx.", []int{2, 1, 2, 1}}, {"xxx..", "x.x..", []int{1, 1, 2, 1, 1}}, {"xxxx....", "x..xx...", []int{1, 1, 1, 2, 2, 2, 2, 1}}, {".xx.", "xx.x", []int{1, 2, 2, 1}},
		// Tilings.
		{"xx..", "x.x.", ones(4)}, {"x..x", ".x.x", ones(4)}, {"x..x..", "xxx...", ones(6)}, {"x..x..", "x.x.x.", ones(6)}, {"xx....xx", "x...x...", ones(8)}, {"xx..xx..", "x.x.....", ones(8)}, {"xx..xx..", ".x.....x", ones(8)}, {"x..x..x..x..", "xx...x......", ones(12)}, {bar(24, 0, 8, 16), bar(24, 0, 1, 2, 3, 12, 13, 14, 15), ones(24)}, {bar(24, 0, 12), full(12) + bar(12), ones(24)},
	} {
		isSummed(t, c.a, c.b, c.counts)
	}
}

// TestKindsOfSums has the answers of which isSummed makes its own, for some pairs in full.
func TestKindsOfSums(t *testing.T) {
	for _, c := range []struct {
		a      string
		b      string
		sum    string
		direct bool
		tiling bool
		gaps   []int
	}{
		{".", "x", ".", true, false, []int{0}}, {"x", "x", "x", true, true, nil}, {"..", "..", "..", true, false, []int{0, 1}},
		{"xx..", "x.x.", "xxxx", true, true, nil}, {"xx..", "x...", "xx..", true, false, []int{2, 3}}, {"xx..", "xx..", "xxx.", false, false, []int{3}}, {"xxx.", "x.x.", "xxxx", false, false, nil},
		{"x..x..x.", "x.......", "x..x..x.", true, false, []int{1, 2, 4, 5, 7}}, {"x..x..x.", ".x......", ".x..x..x", true, false, []int{0, 2, 3, 5, 6}}, {"x..x..x.", "xx......", "xx.xx.xx", true, false, []int{2, 5}}, {"x..x..x.", "xxx.....", "xxxxxxxx", false, false, nil},
		{full(24), bar(24, 9), full(24), true, true, nil}, {bar(24, 9), bar(24, 20), bar(24, 5), true, false, slices.Concat(numbersUpTo(5), numbersUpTo(24)[6:])},
	} {
		a, b := rhythmOfText(c.a), rhythmOfText(c.b)
		label := fmt.Sprintf("(%q, %q)", c.a, c.b)
		sum, ok := impl.SumRhythm(a, b)
		isRhythm(t, "SumRhythm"+label, sum, ok, rhythmOfText(c.sum))
		isBool(t, "IsDirect"+label, impl.IsDirect(a, b), c.direct)
		isBool(t, "IsTiling"+label, impl.IsTiling(a, b), c.tiling)
		sameInts(t, "GapsIn"+label, impl.GapsIn(a, b), c.gaps)
	}
}

// TestSumsOfTurnedRhythms: where a is turned by i and b by j, the sum is turned by i + j.
func TestSumsOfTurnedRhythms(t *testing.T) {
	random := newRandom()
	for n := 1; n <= 24; n++ {
		for range 20 {
			a, b := textWithBeats(random, n, random.IntN(n+1)), textWithBeats(random, n, random.IntN(min(n, 4)+1))
			i, j := random.IntN(n), random.IntN(n)
			counts := impl.SumCounts(rhythmOfText(a), rhythmOfText(b))
			cut := n - (i+j)%n
			isSummed(t, turnedText(a, i), turnedText(b, j), slices.Concat(counts[cut:], counts[:cut]))
		}
	}
}

// tiledTexts has, for each text of n characters, its partners in order. The first pulse is the greatest bit of a number, so that the greatest number has the last text.
func tiledTexts(n int) map[string][]string {
	lists := map[string][]string{}
	for a := range 1 << n {
		text := textOfBits(n, a)
		lists[text] = nil
		for b := 1<<n - 1; b >= 1<<(n-1); b-- {
			if bits.OnesCount(uint(a))*bits.OnesCount(uint(b)) == n && bitsCover(n, a, b) {
				lists[text] = append(lists[text], textOfBits(n, b))
			}
		}
	}
	return lists
}

func textOfBits(n int, mask int) string {
	return strings.NewReplacer("0", ".", "1", "x").Replace(fmt.Sprintf("%0*b", n, mask))
}

func bitsCover(n int, a int, b int) bool {
	covered := 0
	for q := range n {
		if b>>(n-1-q)&1 == 1 {
			covered |= turnedMask(a, n, n-q)
		}
	}
	return covered == 1<<n-1
}

// arePartners takes the partners of a rhythm of at most 12 pulses, in order.
func arePartners(t *testing.T, text string, want []string) {
	t.Helper()
	a := rhythmOfText(text)
	sameList(t, fmt.Sprintf("PartnersOf(%q)", text), impl.PartnersOf(a), want)
	sameInt(t, fmt.Sprintf("CountPartners(%q)", text), impl.CountPartners(a), len(want))
	isFirstPartner(t, text, slices.Concat(want, []string{""})[0])
}

// isFirstPartner takes an empty text for no partner.
func isFirstPartner(t *testing.T, text string, want string) {
	t.Helper()
	got, ok := impl.FirstPartner(rhythmOfText(text))
	label := fmt.Sprintf("FirstPartner(%q)", text)
	if want == "" {
		isNoRhythm(t, label, got, ok)
	} else {
		isRhythm(t, label, got, ok, rhythmOfText(want))
	}
}

func TestPartnersOfAllShortRhythms(t *testing.T) {
	for n := 1; n <= 12; n++ {
		for text, want := range tiledTexts(n) {
			arePartners(t, text, want)
		}
	}
}

// TestListedPartnersTile asks IsTiling for each rhythm with a beat on pulse 0, and puts the texts in order.
func TestListedPartnersTile(t *testing.T) {
	for n := 1; n <= 7; n++ {
		texts := textsOfSize(n)
		for _, text := range texts {
			var want []string
			for _, other := range texts {
				if other[0] == 'x' && impl.IsTiling(rhythmOfText(text), rhythmOfText(other)) {
					want = append(want, other)
				}
			}
			slices.Sort(want)
			slices.Reverse(want)
			arePartners(t, text, want)
		}
	}
}

func TestPartnersOf(t *testing.T) {
	for _, c := range []struct {
		text string
		want []string
	}{
		// Sizes 1 and 2.
		{".", nil}, {"x", []string{"x"}}, {"..", nil}, {"x.", []string{"xx"}}, {".x", []string{"xx"}}, {"xx", []string{"x."}},
		// No beats, one beat, and a beat on every pulse.
		{"........", nil}, {bar(12), nil}, {"x...", []string{"xxxx"}}, {"..x.", []string{"xxxx"}}, {bar(12, 0), []string{full(12)}}, {bar(12, 11), []string{full(12)}}, {"xxxx", []string{"x..."}}, {full(11), []string{bar(11, 0)}}, {full(12), []string{bar(12, 0)}},
		// The number of beats does not divide Size.
		{"xx.", nil}, {"x.x", nil}, {"xxx.", nil}, {"xx.x", nil}, {"x..x..x.", nil}, {"xxxx..", nil}, {"xx.....", nil}, {".xxxxxxx", nil}, {bar(11, 0, 1), nil}, {bar(12, 0, 1, 2, 3, 4), nil}, {"." + full(11), nil},
		// It does, and there is no partner.
		{"x.x...", nil}, {"x...x.", nil}, {".x.x..", nil}, {"x.xx..", nil}, {"xx.x..", nil}, {"xx.x....", nil}, {"xxxx.x......", nil}, {"x...x.......", nil}, {"x.......x...", nil}, {"xxx..xxx....", nil}, {"x...x....", nil}, {"xx.x........", nil}, {"xx.x.....", nil},
		// One partner.
		{"xx..", []string{"x.x."}}, {".xx.", []string{"x.x."}}, {"x..x", []string{"x.x."}}, {"xxx...", []string{"x..x.."}}, {"..xxx.", []string{"x..x.."}}, {"xx..........", []string{"x.x.x.x.x.x."}}, {"xxx.........", []string{"x..x..x..x.."}}, {"xxxxxx......", []string{"x.....x....."}}, {"xxx......", []string{"x..x..x.."}},
		// Several partners.
		{"x.x.", []string{"xx..", "x..x"}}, {".x.x", []string{"xx..", "x..x"}}, {"x..x..", []string{"xxx...", "xx...x", "x.x.x.", "x...xx"}}, {"x.x.x.", []string{"xx....", "x..x..", "x....x"}}, {"xx..xx..", []string{"x.x.....", "x.....x."}}, {"xx..xx..xx..", []string{"x.x.........", "x.....x.....", "x.........x."}}, {"xx....xx....", []string{"x.x.x.......", "x.x.......x.", "x...x...x...", "x.......x.x."}}, {"x.x.x.x.x.x.", []string{"xx..........", "x..x........", "x....x......", "x......x....", "x........x..", "x..........x"}},
	} {
		arePartners(t, c.text, c.want)
	}
}

// TestManyPartners has rhythms of which each pulse of a short bar, but the first one, may be in each of the bars.
func TestManyPartners(t *testing.T) {
	for _, c := range []struct {
		text  string
		count int
		first string
		last  string
	}{
		{"x.....x.....", 32, "xxxxxx......", "x......xxxxx"}, {".....x.....x", 32, "xxxxxx......", "x......xxxxx"}, {"x...x...x...", 27, "xxxx........", "x........xxx"}, {"x..x..x..x..", 16, "xxx.........", "x.........xx"}, {"x....x....", 16, "xxxxx.....", "x.....xxxx"}, {"x...x...", 8, "xxxx....", "x....xxx"}, {"x..x..x..", 9, "xxx......", "x......xx"},
	} {
		r := rhythmOfText(c.text)
		list := textsOf(impl.PartnersOf(r))
		sameInt(t, fmt.Sprintf("CountPartners(%q)", c.text), impl.CountPartners(r), c.count)
		sameInt(t, fmt.Sprintf("the length of PartnersOf(%q)", c.text), len(list), c.count)
		sameTexts(t, fmt.Sprintf("the first and the last one of PartnersOf(%q)", c.text), []string{list[0], list[len(list)-1]}, []string{c.first, c.last})
		isFirstPartner(t, c.text, c.first)
	}
}

// coveringTexts covers, again and again, the first pulse that is not covered, in all ways. This has another order than the one of texts.
func coveringTexts(text string) []string {
	n := len(text)
	places := placesOf(text)
	var found []string
	var cover func(covered int, partner []int)
	cover = func(covered int, partner []int) {
		if covered == 1<<n-1 {
			found = append(found, bar(n, partner...))
			return
		}
		gap := bits.TrailingZeros(^uint(covered))
		for _, p := range places {
			q := (gap + n - p) % n
			more := 0
			for _, place := range places {
				more |= 1 << ((place + q) % n)
			}
			if covered&more == 0 {
				cover(covered|more, append(slices.Clone(partner), q))
			}
		}
	}
	cover(0, nil)
	found = slices.DeleteFunc(found, func(partner string) bool { return partner[0] != 'x' })
	slices.Sort(found)
	slices.Reverse(found)
	return found
}

func TestCoveringTextsAreThePartners(t *testing.T) {
	for n := 1; n <= 10; n++ {
		for _, text := range textsOfSize(n) {
			arePartners(t, text, coveringTexts(text))
		}
	}
}

// longTexts has rhythms of n pulses with few beats, and rhythms with as many beats as a divisor of n.
func longTexts(random *rand.Rand, n int) []string {
	list := []string{bar(n), full(n), bar(n, 0), bar(n, 1), bar(n, n-1), "." + full(n-1), full(n-1) + "."}
	for d := 1; d < n; d++ {
		list = append(list, bar(n, 0, d), bar(n, d, (d+d)%n))
	}
	for k := 2; k < n; k++ {
		if n%k == 0 {
			list = append(list, strings.Repeat("x"+bar(n/k-1), k), full(k)+bar(n-k), textWithBeats(random, n, k))
			for range 20 {
				list = append(list, strings.Repeat(textWithBeats(random, k, random.IntN(k)+1), n/k))
			}
		}
		list = append(list, textWithBeats(random, n, k))
	}
	for range 40 {
		list = append(list, textWithBeats(random, n, 3), textWithBeats(random, n, 4))
	}
	return list
}

// TestFirstPartnersOfLongRhythms holds the partners of the partners against all of theirs, too, turned by some pulses.
func TestFirstPartnersOfLongRhythms(t *testing.T) {
	random := newRandom()
	for n := 13; n <= 24; n++ {
		for _, text := range longTexts(random, n) {
			partners := coveringTexts(text)
			isFirstPartner(t, text, slices.Concat(partners, []string{""})[0])
			if len(partners) > 0 {
				partner := turnedText(partners[random.IntN(len(partners))], random.IntN(n))
				isFirstPartner(t, partner, coveringTexts(partner)[0])
			}
			isUnlisted(t, text)
		}
	}
}

// isUnlisted takes a rhythm of more than 12 pulses.
func isUnlisted(t *testing.T, text string) {
	t.Helper()
	r := rhythmOfText(text)
	sameList(t, fmt.Sprintf("PartnersOf(%q)", text), impl.PartnersOf(r), nil)
	sameInt(t, fmt.Sprintf("CountPartners(%q)", text), impl.CountPartners(r), -1)
}

func TestFirstPartner(t *testing.T) {
	for _, c := range []struct {
		text string
		want string
	}{
		{bar(13), ""}, {bar(13, 0), full(13)}, {bar(13, 12), full(13)}, {full(13), bar(13, 0)}, {bar(13, 0, 1), ""}, {"." + full(12), ""}, {bar(24), ""}, {bar(24, 0), full(24)}, {bar(24, 23), full(24)}, {full(24), bar(24, 0)}, {"." + full(23), ""}, {bar(23, 0, 1), ""}, {bar(23, 22), full(23)}, {full(23), bar(23, 0)},
		// Two beats: the circles of pulses must have even numbers.
		{bar(24, 0, 1), strings.Repeat("x.", 12)}, {bar(24, 3, 4), strings.Repeat("x.", 12)}, {bar(24, 0, 2), strings.Repeat("xx..", 6)}, {bar(24, 0, 3), strings.Repeat("xxx...", 4)}, {bar(24, 0, 12), full(12) + bar(12)}, {bar(24, 11, 23), full(12) + bar(12)}, {bar(24, 0, 8), ""}, {bar(24, 0, 16), ""}, {bar(24, 0, 4), strings.Repeat("xxxx....", 3)}, {bar(24, 0, 23), strings.Repeat("x.", 12)}, {bar(14, 0, 7), full(7) + bar(7)}, {bar(14, 0, 2), ""}, {bar(16, 0, 8), full(8) + bar(8)}, {bar(18, 0, 2), ""}, {bar(20, 0, 4), ""}, {bar(20, 0, 5), strings.Repeat(full(5)+bar(5), 2)},
		// Three beats and more.
		{bar(24, 0, 8, 16), full(8) + bar(16)}, {bar(24, 7, 15, 23), full(8) + bar(16)}, {bar(24, 0, 6, 12, 18), full(6) + bar(18)}, {bar(15, 0, 5, 10), full(5) + bar(10)}, {bar(15, 0, 1, 2), strings.Repeat("x..", 5)}, {bar(15, 0, 1, 3), ""}, {bar(15, 0, 1, 5), strings.Repeat("x..", 5)}, {bar(16, 0, 1, 2, 4), ""}, {bar(16, 0, 1, 4, 5), strings.Repeat("x.x.....", 2)}, {strings.Repeat("x.", 12), bar(24, 0, 1)}, {strings.Repeat("xx..", 6), bar(24, 0, 2)}, {full(12) + bar(12), bar(24, 0, 12)}, {strings.Repeat("xx.x", 6), ""}, {"x.x." + bar(20), strings.Repeat("xx..", 6)},
		{bar(24, 0, 1, 2, 3, 4), ""}, {bar(24, 0, 1, 2, 3, 4, 5, 6), ""}, {bar(24, 0, 1, 2, 3, 4, 5, 6, 8), ""},
	} {
		isFirstPartner(t, c.text, c.want)
		isUnlisted(t, c.text)
	}
}

// TestPartnersOfTurnedRhythms: a turned rhythm has the same partners.
func TestPartnersOfTurnedRhythms(t *testing.T) {
	for _, text := range []string{"x..x..", "xx..", "xx....xx....", "x.....x.....", "x.x...", "xxx......", bar(24, 0, 12), bar(24, 0, 8), bar(24, 0, 1, 2, 12, 13, 14), bar(18, 0, 1, 9, 10)} {
		r := rhythmOfText(text)
		want := textsOf(impl.PartnersOf(r))
		first, ok := impl.FirstPartner(r)
		for _, turned := range turnedTexts(text) {
			sameList(t, fmt.Sprintf("PartnersOf(%q)", turned), impl.PartnersOf(rhythmOfText(turned)), want)
			got, found := impl.FirstPartner(rhythmOfText(turned))
			if found != ok || !equalRhythms(got, first) {
				t.Errorf("FirstPartner(%q) = %v, %t, and %v, %t of %q", turned, got, found, first, ok, text)
			}
		}
	}
}

// tilings goes through many pairs that tile, up to 12 pulses through all whose second part has a beat on pulse 0.
func tilings(yield func(a string, b string) bool) {
	for n := 1; n <= 12; n++ {
		for a, list := range tiledTexts(n) {
			for _, b := range list {
				if !yield(a, b) {
					return
				}
			}
		}
	}
	random := newRandom()
	for n := 13; n <= 24; n++ {
		for _, a := range longTexts(random, n) {
			for i, b := range coveringTexts(a) {
				if i < 3 && (!yield(a, turnedText(b, random.IntN(n))) || !yield(b, a)) {
					return
				}
			}
		}
	}
}

func TestPeriodicTilings(t *testing.T) {
	for a, b := range tilings {
		x, y := rhythmOfText(a), rhythmOfText(b)
		label := fmt.Sprintf("(%q, %q)", a, b)
		isBool(t, "IsTiling"+label, impl.IsTiling(x, y), true)
		isBool(t, "IsPeriodicTiling"+label, impl.IsPeriodicTiling(x, y), isPeriodicText(a) || isPeriodicText(b))
	}
}

// TestNoTilingIsPeriodic has all short pairs that do not tile, with periodic parts and without.
func TestNoTilingIsPeriodic(t *testing.T) {
	for n := 1; n <= 6; n++ {
		for _, a := range textsOfSize(n) {
			for _, b := range textsOfSize(n) {
				if !textsTile(a, b) {
					isNoTiling(t, rhythmOfText(a), rhythmOfText(b))
				}
			}
		}
	}
}

func isNoTiling(t *testing.T, a impl.Rhythm, b impl.Rhythm) {
	t.Helper()
	label := fmt.Sprintf("(%s, %s)", shortName(a), shortName(b))
	isBool(t, "IsTiling"+label, impl.IsTiling(a, b), false)
	isBool(t, "IsPeriodicTiling"+label, impl.IsPeriodicTiling(a, b), false)
	for _, k := range append(extremes(), -1, 0, 1, 2, 24) {
		isStretched(t, a, b, k, "", "")
	}
}

// isStretched takes empty texts for no rhythms.
func isStretched(t *testing.T, a impl.Rhythm, b impl.Rhythm, k int, wantA string, wantB string) {
	t.Helper()
	x, y, ok := impl.StretchTiling(a, b, k)
	label := fmt.Sprintf("StretchTiling(%s, %s, %d)", shortName(a), shortName(b), k)
	if wantA == "" {
		isNoRhythm(t, "the first one of "+label, x, ok)
		isNoRhythm(t, "the second one of "+label, y, ok)
	} else {
		isRhythm(t, "the first one of "+label, x, ok, rhythmOfText(wantA))
		isRhythm(t, "the second one of "+label, y, ok, rhythmOfText(wantB))
	}
}

func TestIsPeriodicTiling(t *testing.T) {
	for _, c := range []struct {
		a    string
		b    string
		want bool
	}{
		// Neither part is periodic; Size 1 has the only such tiling.
		{"x", "x", false},
		// The first part, the second one, and both.
		{"xx", "x.", true}, {"x.", "xx", true}, {".x", "xx", true}, {"x.x.", "xx..", true}, {"xx..", "x.x.", true}, {".x.x", "x..x", true}, {"x..x..", "xxx...", true}, {"xxx...", "x..x..", true}, {"x..x..", "x.x.x.", true}, {"x.x.x.", ".x..x.", true}, {"x..x..", "x...xx", true}, {"xxxx", ".x..", true}, {full(24), bar(24, 5), true}, {bar(24, 5), full(24), true}, {bar(24, 0, 8, 16), bar(24, 0, 1, 2, 3, 12, 13, 14, 15), true}, {bar(24, 0, 8, 16), strings.Repeat("x..", 8), true}, {bar(24, 0, 8, 16), full(8) + bar(16), true}, {full(8) + bar(16), bar(24, 0, 8, 16), true},
		// No tilings: direct ones with gaps, others without, and both.
		{".", ".", false}, {"x", ".", false}, {"..", "..", false}, {"xx", "..", false}, {"x.", "x.", false}, {"xx", "xx", false}, {"x.x.", "x...", false}, {"x...", "x.x.", false}, {"x.x.", "x.x.", false}, {"x.x.", ".x.x", false}, {"xxxx", "x.x.", false}, {"xxxx", "....", false}, {"xxxx", "xxxx", false}, {"xx..", "xx..", false}, {"x.x.", "xxx.", false}, {"x.x.x.", "x.....", false}, {"x.x.x.", "x.x...", false}, {full(24), bar(24), false}, {full(24), bar(24, 0, 1), false}, {bar(24, 0, 8, 16), bar(24, 0, 8, 16), false},
	} {
		isBool(t, fmt.Sprintf("IsPeriodicTiling(%q, %q)", c.a, c.b), impl.IsPeriodicTiling(rhythmOfText(c.a), rhythmOfText(c.b)), c.want)
		isBool(t, fmt.Sprintf("IsPeriodicTiling(%q, %q)", c.b, c.a), impl.IsPeriodicTiling(rhythmOfText(c.b), rhythmOfText(c.a)), c.want)
	}
}

// spacedText has k - 1 points after each character.
func spacedText(text string, k int) string {
	spaced := ""
	for _, c := range text {
		spaced += string(c) + bar(k-1)
	}
	return spaced
}

// thickText has each character k times.
func thickText(text string, k int) string {
	thick := ""
	for _, c := range text {
		thick += strings.Repeat(string(c), k)
	}
	return thick
}

func TestStretchedTilingsOfManyRhythms(t *testing.T) {
	for a, b := range tilings {
		n := len(a)
		x, y := rhythmOfText(a), rhythmOfText(b)
		for k := 1; k*n <= 24; k++ {
			isStretched(t, x, y, k, spacedText(a, k), thickText(b, k))
			longA, longB, _ := impl.StretchTiling(x, y, k)
			isBool(t, fmt.Sprintf("IsTiling of StretchTiling(%q, %q, %d)", a, b, k), impl.IsTiling(longA, longB), true)
		}
		for _, k := range []int{math.MinInt64, -24, -1, 0, 24/n + 1, 24/n + 2, 25, math.MaxInt64} {
			isStretched(t, x, y, k, "", "")
		}
	}
}

func TestStretchTiling(t *testing.T) {
	for _, c := range []struct {
		a     string
		b     string
		k     int
		wantA string
		wantB string
	}{
		// k of 1 and 2.
		{"x", "x", 1, "x", "x"}, {"x", "x", 2, "x.", "xx"}, {"xx", "x.", 1, "xx", "x."}, {"xx", "x.", 2, "x.x.", "xx.."}, {"x.", "xx", 2, "x...", "xxxx"}, {".x", "xx", 2, "..x.", "xxxx"}, {"xx", ".x", 2, "x.x.", "..xx"}, {"xx..", "x.x.", 1, "xx..", "x.x."}, {"xx..", "x.x.", 2, "x.x.....", "xx..xx.."}, {"x.x.", "xx..", 2, "x...x...", "xxxx...."}, {"x..x..", ".x.x.x", 2, "x.....x.....", "..xx..xx..xx"}, {full(12), bar(12, 11), 2, strings.Repeat("x.", 12), bar(24, 22, 23)}, {bar(12, 11), full(12), 2, bar(24, 22), full(24)},
		// The greatest k, and one more.
		{"x", "x", 24, bar(24, 0), full(24)}, {"x", "x", 25, "", ""}, {"xx", "x.", 12, bar(24, 0, 12), full(12) + bar(12)}, {"xx", "x.", 13, "", ""}, {"xxx", "..x", 8, bar(24, 0, 8, 16), bar(16) + full(8)}, {"xxx", "..x", 9, "", ""}, {"xx..", "x.x.", 6, bar(24, 0, 6), full(6) + bar(6) + full(6) + bar(6)}, {"xx..", "x.x.", 7, "", ""}, {"xxxxx", "x....", 4, strings.Repeat("x...", 5), full(4) + bar(16)}, {"xxxxx", "x....", 5, "", ""}, {"xxxxxxx", bar(7, 6), 3, strings.Repeat("x..", 7), bar(18) + "xxx"}, {"xxxxxxx", bar(7, 6), 4, "", ""}, {full(12), bar(12, 0), 3, "", ""}, {full(13), bar(13, 0), 1, full(13), bar(13, 0)}, {full(13), bar(13, 0), 2, "", ""}, {full(24), bar(24, 0), 1, full(24), bar(24, 0)}, {full(24), bar(24, 0), 2, "", ""},
		// k of 0, negative and very great, also where k * Size comes to a small number again beyond 64 bits.
		{"x", "x", 0, "", ""}, {"x", "x", -1, "", ""}, {"x", "x", -24, "", ""}, {"xx", "x.", -1, "", ""}, {"xx..", "x.x.", 0, "", ""}, {"xx..", "x.x.", -2, "", ""}, {"x", "x", math.MaxInt64, "", ""}, {"x", "x", math.MinInt64, "", ""}, {"xx", "x.", math.MinInt64, "", ""}, {"xx", "x.", math.MinInt64 + 1, "", ""}, {"xx..", "x.x.", 1 << 62, "", ""}, {"xx..", "x.x.", 1<<62 + 1, "", ""}, {"xx..", "x.x.", 1<<62 + 2, "", ""}, {"xx..xx..", "x.x.....", 1 << 61, "", ""}, {"xx..xx..", "x.x.....", 1<<61 + 1, "", ""}, {"xx..xx..", "x.x.....", 1<<61 + 3, "", ""}, {"xx..", "x.x.", -1<<62 + 1, "", ""}, {"xx..", "x.x.", 1<<32 + 1, "", ""}, {full(24), bar(24, 0), math.MaxInt64/24 + 1, "", ""}, {full(24), bar(24, 0), 1<<61 + 1, "", ""},
		// No tilings.
		{".", ".", 1, "", ""}, {"x", ".", 1, "", ""}, {".", "x", 2, "", ""}, {"xx", "xx", 1, "", ""}, {"xx..", "x...", 2, "", ""}, {"xxx.", "x.x.", 2, "", ""}, {"xx..", "xx..", 1, "", ""}, {"x", "xx", 1, "", ""},
	} {
		isStretched(t, rhythmOfText(c.a), rhythmOfText(c.b), c.k, c.wantA, c.wantB)
	}
}

// haveNoSum checks the functions of two rhythms of which one is not valid, or that have different Sizes.
func haveNoSum(t *testing.T, badA impl.Rhythm, badB impl.Rhythm) {
	t.Helper()
	a, memoryA := withSpare(badA)
	b, memoryB := withSpare(badB)
	beforeA, beforeB := slices.Clone(memoryA), slices.Clone(memoryB)
	label := " of " + shortName(badA) + " and " + shortName(badB)
	sameInts(t, "SumCounts"+label, impl.SumCounts(a, b), nil)
	sum, ok := impl.SumRhythm(a, b)
	isNoRhythm(t, "SumRhythm"+label, sum, ok)
	isBool(t, "IsDirect"+label, impl.IsDirect(a, b), false)
	sameInts(t, "GapsIn"+label, impl.GapsIn(a, b), nil)
	isNoTiling(t, a, b)
	if !slices.Equal(memoryA, beforeA) || !slices.Equal(memoryB, beforeB) {
		t.Errorf("a function of sums changes its arguments%s", label)
	}
}

func haveNoSumsWithOthers(t *testing.T, bad impl.Rhythm) {
	t.Helper()
	for _, good := range []string{".", "x", "........", "x.......", "xx..xx..", "x.x.....", full(8), bar(24), full(24), bar(24, 5)} {
		haveNoSum(t, bad, rhythmOfText(good))
		haveNoSum(t, rhythmOfText(good), bad)
	}
	haveNoSum(t, bad, bad)
}

func hasNoPartners(t *testing.T, bad impl.Rhythm) {
	t.Helper()
	r, memory := withSpare(bad)
	before := slices.Clone(memory)
	name := shortName(bad)
	sameList(t, "PartnersOf "+name, impl.PartnersOf(r), nil)
	sameInt(t, "CountPartners "+name, impl.CountPartners(r), -1)
	first, ok := impl.FirstPartner(r)
	isNoRhythm(t, "FirstPartner "+name, first, ok)
	if !slices.Equal(memory, before) {
		t.Errorf("a function of partners changes %s", name)
	}
}

func TestInvalidRhythmsHaveNoSums(t *testing.T) {
	for _, bad := range invalidRhythms() {
		haveNoSumsWithOthers(t, bad)
		hasNoPartners(t, bad)
		for _, other := range invalidRhythms() {
			haveNoSum(t, bad, other)
		}
	}
}

// TestBeatsOutOfTheBarHaveNoSums has the remainders of rhythms with partners, in a list that is not valid.
func TestBeatsOutOfTheBarHaveNoSums(t *testing.T) {
	for _, beats := range [][]int{{-8}, {8}, {0, 8}, {-1, 0}, {-7, 0}, {7, 8}, {0, 9}, {1, 0}, {4, 0}, {0, 0}, {0, 4, 4}, {0, 1, 5, 4}, {0, 1, 4, 13}} {
		bad := impl.Rhythm{Size: 8, Beats: beats}
		haveNoSumsWithOthers(t, bad)
		hasNoPartners(t, bad)
	}
	for _, bad := range []impl.Rhythm{{Size: 1, Beats: []int{1}}, {Size: 1, Beats: []int{0, 0}}, {Size: 25, Beats: numbersUpTo(25)}, {Size: 25, Beats: []int{0}}, {Size: -1, Beats: []int{0}}, {Size: -2, Beats: []int{0, 1}}, {Size: 8000, Beats: []int{0, 4000}}} {
		haveNoSumsWithOthers(t, bad)
		hasNoPartners(t, bad)
	}
}

func TestRhythmsOfDifferentSizesHaveNoSums(t *testing.T) {
	for a := 1; a <= 24; a++ {
		for b := 1; b <= 24; b++ {
			if a != b {
				haveNoSum(t, rhythmOfMask(a, 0), rhythmOfMask(b, 0))
				haveNoSum(t, rhythmOfMask(a, 1), rhythmOfMask(b, 1))
				haveNoSum(t, rhythmOfMask(a, 1), rhythmOfMask(b, -1))
				haveNoSum(t, rhythmOfMask(a, -1), rhythmOfMask(b, 1))
			}
		}
	}
}

// TestSumsWithoutBeats holds a nil list of beats against an empty one, and against one with memory behind it.
func TestSumsWithoutBeats(t *testing.T) {
	for n := 1; n <= 24; n++ {
		count := 0
		if n > 12 {
			count = -1
		}
		for _, a := range []impl.Rhythm{{Size: n}, {Size: n, Beats: []int{}}, {Size: n, Beats: []int{0, 0, 7}[:0]}} {
			for _, b := range []impl.Rhythm{a, rhythmOfText(bar(n)), rhythmOfText(bar(n, 0)), rhythmOfText(full(n))} {
				label := fmt.Sprintf(" without beats and with %d, and Size %d", len(b.Beats), n)
				sameInts(t, "SumCounts"+label, impl.SumCounts(a, b), zeros(n))
				sum, ok := impl.SumRhythm(a, b)
				isRhythm(t, "SumRhythm"+label, sum, ok, impl.Rhythm{Size: n})
				isBool(t, "IsDirect"+label, impl.IsDirect(a, b), true)
				sameInts(t, "GapsIn"+label, impl.GapsIn(a, b), numbersUpTo(n))
				isNoTiling(t, a, b)
				isNoTiling(t, b, a)
			}
			sameList(t, fmt.Sprintf("PartnersOf without beats and Size %d", n), impl.PartnersOf(a), nil)
			sameInt(t, fmt.Sprintf("CountPartners without beats and Size %d", n), impl.CountPartners(a), count)
			first, ok := impl.FirstPartner(a)
			isNoRhythm(t, fmt.Sprintf("FirstPartner without beats and Size %d", n), first, ok)
		}
	}
}

func textsToSum() []string {
	return append(textsForMemory(), "xx..", "x...", "....", "xx..xx..", "x.x.....", "x.......", "........", "x...x...", "x..x..", "xxx...", "x.x.x.", bar(12, 0, 6), full(12), bar(24), bar(24, 0), bar(24, 0, 12), full(12)+bar(12), full(24))
}

// TestReturnedSumsAreNew has pairs of different Sizes as well, and each rhythm with itself, in the same memory.
func TestReturnedSumsAreNew(t *testing.T) {
	for _, textA := range textsToSum() {
		for _, textB := range textsToSum() {
			a, memoryA := withSpare(rhythmOfText(textA))
			b, memoryB := withSpare(rhythmOfText(textB))
			beforeA, beforeB := slices.Clone(memoryA), slices.Clone(memoryB)
			keepTheirSums(t, a, b)
			keepTheirSums(t, a, a)
			sameInts(t, fmt.Sprintf("the beats of %q after its sums with %q", textA, textB), memoryA, beforeA)
			sameInts(t, fmt.Sprintf("the beats of %q after its sums with %q", textB, textA), memoryB, beforeB)
		}
	}
}

func keepTheirSums(t *testing.T, a impl.Rhythm, b impl.Rhythm) {
	t.Helper()
	label := fmt.Sprintf("(%v, %v)", a, b)
	isNewList(t, "SumCounts"+label, func() []int { return impl.SumCounts(a, b) })
	isNewList(t, "GapsIn"+label, func() []int { return impl.GapsIn(a, b) })
	isNewMemory(t, "SumRhythm"+label, func() impl.Rhythm { r, _ := impl.SumRhythm(a, b); return r })
	for k := 1; k <= 2; k++ {
		isNewMemory(t, "the first one of StretchTiling"+label, func() impl.Rhythm { x, _, _ := impl.StretchTiling(a, b, k); return x })
		isNewMemory(t, "the second one of StretchTiling"+label, func() impl.Rhythm { _, y, _ := impl.StretchTiling(a, b, k); return y })
	}
	impl.IsDirect(a, b)
	impl.IsTiling(a, b)
	impl.IsPeriodicTiling(a, b)
}

// TestStretchedTilingsShareNoMemory overwrites the one rhythm of a result; the other one must keep its beats.
func TestStretchedTilingsShareNoMemory(t *testing.T) {
	for a, b := range tilings {
		n := len(a)
		for _, k := range []int{1, 24 / n} {
			label := fmt.Sprintf("StretchTiling(%q, %q, %d)", a, b, k)
			x, y, ok := impl.StretchTiling(rhythmOfText(a), rhythmOfText(b), k)
			spoil(x)
			isRhythm(t, "the second one of "+label+" after the first one was changed", y, ok, rhythmOfText(thickText(b, k)))
			x, y, ok = impl.StretchTiling(rhythmOfText(a), rhythmOfText(b), k)
			spoil(y)
			isRhythm(t, "the first one of "+label+" after the second one was changed", x, ok, rhythmOfText(spacedText(a, k)))
		}
	}
}

// TestReturnedPartnersAreNew overwrites each rhythm of a list; all the others must keep their beats.
func TestReturnedPartnersAreNew(t *testing.T) {
	for _, text := range textsToSum() {
		r, memory := withSpare(rhythmOfText(text))
		before := slices.Clone(memory)
		kept := impl.PartnersOf(r)
		want := textsOf(kept)
		for i := range want {
			list := impl.PartnersOf(r)
			spoil(list[i])
			sameList(t, fmt.Sprintf("PartnersOf(%q) but the one with the index %d, which was changed", text, i), slices.Concat(list[:i], list[i+1:]), slices.Concat(want[:i], want[i+1:]))
			clear(list[:cap(list)])
		}
		if _, ok := impl.FirstPartner(r); ok {
			isNewMemory(t, fmt.Sprintf("FirstPartner(%q)", text), func() impl.Rhythm { got, _ := impl.FirstPartner(r); return got })
		}
		impl.CountPartners(r)
		sameInts(t, fmt.Sprintf("the beats of %q after its partners", text), memory, before)
		sameList(t, fmt.Sprintf("PartnersOf(%q) after other results were changed", text), kept, want)
		sameList(t, fmt.Sprintf("PartnersOf(%q) once more", text), impl.PartnersOf(r), want)
	}
}

// askForSums calls all functions of sums, each for many rhythms.
func askForSums() {
	for _, a := range append(textsToSum(), "x.x...", "x...x...x...", "x.....x.....", "xx.x....", bar(24, 0, 8), bar(24, 0, 8, 16), bar(13, 0, 1)) {
		r := rhythmOfText(a)
		impl.PartnersOf(r)
		impl.CountPartners(r)
		impl.FirstPartner(r)
		for _, b := range textsToSum() {
			other := rhythmOfText(b)
			impl.SumCounts(r, other)
			impl.SumRhythm(r, other)
			impl.IsDirect(r, other)
			impl.IsTiling(r, other)
			impl.GapsIn(r, other)
			impl.IsPeriodicTiling(r, other)
			impl.StretchTiling(r, other, 2)
		}
	}
	for _, bad := range invalidRhythms() {
		impl.PartnersOf(bad)
		impl.CountPartners(bad)
		impl.FirstPartner(bad)
	}
}

// TestNoGoroutineIsLeft: a bubble fails if one of its goroutines waits although the function is at its end.
func TestNoGoroutineIsLeft(t *testing.T) {
	synctest.Test(t, func(t *testing.T) { askForSums() })
}

// TestPartnersInManyGoroutines asks for all partners at once, each time for the same ones.
func TestPartnersInManyGoroutines(t *testing.T) {
	var wait sync.WaitGroup
	for _, text := range []string{"x.....x.....", "x...x...x...", "x..x..x..x..", "xx..xx..xx..", "xx....xx....", "x.x.x.x.x.x.", "xx.x........", full(12), bar(12, 0)} {
		want := coveringTexts(text)
		for range 20 {
			wait.Go(func() { arePartners(t, text, want) })
		}
	}
	wait.Wait()
}

package tests

import (
	"fmt"
	"runtime"
	"slices"
	"strings"
	"sync"
	"testing"
	"testing/synctest"

	"loop.example/g03204/impl"
)

// The expected values of this file are made of multiplied primes, of counts of places, of all sets of a list, of the rests of single powers, and of numbers that are written in the base of a prime.

// primeSieve has, at each power of a prime up to 1000, this prime, and 0 elsewhere.
func primeSieve() *[1001]int {
	var primes [1001]int
	totients := totientSieve()
	for p := 2; p <= 1000; p++ {
		if totients[p] == p-1 {
			for s := p; s <= 1000; s *= p {
				primes[s] = p
			}
		}
	}
	return &primes
}

func hasPrime(t *testing.T, n int, want int) {
	t.Helper()
	sameInt(t, fmt.Sprintf("PrimeOf(%d)", n), impl.PrimeOf(n), want)
}

func TestPrimesOfAllNumbers(t *testing.T) {
	primes := primeSieve()
	for n, want := range primes {
		hasPrime(t, n, want)
	}
}

func TestPrimeOf(t *testing.T) {
	for _, c := range []struct{ n, want int }{
		{0, 0}, {1, 0},
		// Primes.
		{2, 2}, {3, 3}, {5, 5}, {7, 7}, {11, 11}, {23, 23}, {31, 31}, {37, 37}, {499, 499}, {991, 991}, {997, 997},
		// Powers of primes.
		{4, 2}, {8, 2}, {16, 2}, {64, 2}, {512, 2}, {9, 3}, {27, 3}, {81, 3}, {729, 3}, {25, 5}, {125, 5}, {625, 5}, {49, 7}, {343, 7}, {121, 11}, {169, 13}, {289, 17}, {361, 19}, {529, 23}, {841, 29}, {961, 31},
		// Products of two primes, and others.
		{6, 0}, {10, 0}, {14, 0}, {15, 0}, {21, 0}, {22, 0}, {35, 0}, {77, 0}, {899, 0}, {998, 0}, {12, 0}, {18, 0}, {20, 0}, {24, 0}, {30, 0}, {36, 0}, {45, 0}, {100, 0}, {144, 0}, {216, 0}, {384, 0}, {768, 0}, {900, 0}, {999, 0}, {1000, 0},
		// Greater than 1000: also primes and their powers.
		{1001, 0}, {1002, 0}, {1009, 0}, {1013, 0}, {1024, 0}, {1331, 0}, {1369, 0}, {2048, 0}, {2187, 0}, {3125, 0}, {7919, 0}, {1 << 16, 0}, {1<<31 - 1, 0}, {1 << 32, 0}, {1<<32 + 2, 0}, {1<<61 - 1, 0}, {1 << 62, 0},
		// Negative.
		{-1, 0}, {-2, 0}, {-3, 0}, {-4, 0}, {-8, 0}, {-9, 0}, {-12, 0}, {-997, 0}, {-1000, 0}, {-1001, 0}, {-1 << 32, 0}, {-1 << 62, 0},
	} {
		hasPrime(t, c.n, c.want)
	}
	for _, n := range extremes() {
		hasPrime(t, n, 0)
	}
}

// conditions are what the chapter tells of a rhythm.
type conditions struct {
	powers  []int
	first   bool
	second  bool
	partner string
}

func hasConditions(t *testing.T, text string, want conditions) {
	t.Helper()
	r := rhythmOfText(text)
	label := fmt.Sprintf("(%q)", text)
	sameInts(t, "PrimePowersOf"+label, impl.PrimePowersOf(r), want.powers)
	isBool(t, "MeetsFirst"+label, impl.MeetsFirst(r), want.first)
	isBool(t, "MeetsSecond"+label, impl.MeetsSecond(r), want.second)
	isBool(t, "MeetsBoth"+label, impl.MeetsBoth(r), want.first && want.second)
	partner, ok := impl.StandardPartner(r)
	isRhythm(t, "StandardPartner"+label, partner, ok, rhythmOfText(want.partner))
}

func TestConditions(t *testing.T) {
	for _, c := range []struct {
		text    string
		powers  []int
		first   bool
		second  bool
		partner string
	}{
		// Size 1, and primes.
		{"x", nil, true, true, "x"}, {".", nil, false, true, "x"}, {"x.", nil, true, true, "xx"}, {".x", nil, true, true, "xx"}, {"xx", []int{2}, true, true, "x."}, {"..", []int{2}, false, true, "x."}, {"xx.", nil, false, true, "xxx"}, {"x.x", nil, false, true, "xxx"}, {"xxx", []int{3}, true, true, "x.."}, {"...", []int{3}, false, true, "x.."}, {"..x..", nil, true, true, "xxxxx"}, {"xx...", nil, false, true, "xxxxx"},
		{bar(23, 7), nil, true, true, full(23)}, {bar(23, 0, 1), nil, false, true, full(23)}, {full(22) + ".", nil, false, true, full(23)}, {full(23), []int{23}, true, true, bar(23, 0)}, {bar(23), []int{23}, false, true, bar(23, 0)},
		// Powers of a prime.
		{"....", []int{2, 4}, false, true, "x..."}, {"...x", nil, true, true, "xxxx"}, {"xxxx", []int{2, 4}, true, true, "x..."}, {"xx..", []int{2}, true, true, "x.x."}, {"x..x", []int{2}, true, true, "x.x."}, {"x.x.", []int{4}, true, true, "xx.."}, {".x.x", []int{4}, true, true, "xx.."}, {"xxx.", nil, false, true, "xxxx"},
		{"xx......", []int{2}, true, true, "x.x.x.x."}, {"x.x.....", []int{4}, true, true, "xx..xx.."}, {"x...x...", []int{8}, true, true, "xxxx...."}, {"xxxx....", []int{2, 4}, true, true, "x...x..."}, {"xx..xx..", []int{2, 8}, true, true, "x.x....."}, {"x.x.x.x.", []int{4, 8}, true, true, "xx......"}, {"x..x..x.", nil, false, true, full(8)}, {"xx.xx...", []int{2}, false, true, "x.x.x.x."}, {"xxxxx.x.", []int{4}, false, true, "xx..xx.."}, {"xxx.xxx.", []int{8}, false, true, "xxxx...."},
		{"xxx......", []int{3}, true, true, "x..x..x.."}, {"x..x..x..", []int{9}, true, true, "xxx......"}, {"xxxxxx...", []int{3}, false, true, "x..x..x.."}, {"xx.xx.xx.", []int{9}, false, true, "xxx......"}, {"xx.......", nil, false, true, full(9)}, {full(9), []int{3, 9}, true, true, bar(9, 0)}, {bar(16, 0, 8), []int{16}, true, true, full(8) + bar(8)}, {strings.Repeat("x...", 4), []int{8, 16}, true, true, "xxxx" + bar(12)}, {full(8) + bar(8), []int{2, 4, 8}, true, true, bar(16, 0, 8)}, {"xxxxxx..xxxxxx..", []int{2, 16}, false, true, bar(16, 0, 2, 4, 6)}, {full(16), []int{2, 4, 8, 16}, true, true, bar(16, 0)},
		// Two primes.
		{"......", []int{2, 3}, false, true, "x....."}, {"..x...", nil, true, true, full(6)}, {"xxxxxx", []int{2, 3}, true, true, "x....."}, {"xx....", []int{2}, true, true, "x.x.x."}, {"x..x..", []int{2}, true, true, "x.x.x."}, {"xxx...", []int{3}, true, true, "x..x.."}, {"x.x.x.", []int{3}, true, true, "x..x.."}, {"x.x...", nil, false, true, full(6)}, {"xxxx..", []int{2}, false, true, "x.x.x."}, {"x....x....", []int{2}, true, true, "x.x.x.x.x."}, {"xxxxx.....", []int{5}, true, true, "x....x...."}, {"x....x....x....", []int{3}, true, true, strings.Repeat("x..", 5)}, {"xx.xx.xx.xx.xx.", []int{5}, false, true, "x....x....x...."}, {full(15), []int{3, 5}, true, true, bar(15, 0)},
		// Size 12.
		{bar(12), []int{2, 3, 4}, false, true, bar(12, 0)}, {bar(12, 5), nil, true, true, full(12)}, {full(12), []int{2, 3, 4}, true, true, bar(12, 0)}, {"xx..........", []int{2}, true, true, "x.x.x.x.x.x."}, {"x.x.........", []int{4}, true, true, "x..xx..xx..x"}, {"xxx.........", []int{3}, true, true, "x..x..x..x.."}, {"x...x...x...", []int{3}, true, true, "x..x..x..x.."}, {"xxxx........", []int{2, 4}, true, true, "x...x...x..."}, {"x..x..x..x..", []int{2, 4}, true, true, "x...x...x..."}, {"xxxxxx......", []int{2, 3}, true, true, "x.....x....."}, {"xxx...xxx...", []int{3, 4}, true, true, "x..x........"},
		{"xx..x.......", nil, false, true, full(12)}, {"xx.xx.......", []int{2}, false, true, "x.x.x.x.x.x."}, {"x.x.x.x.....", []int{4}, false, true, "x..xx..xx..x"}, {"xxx.xxx.....", []int{3}, false, true, "x..x..x..x.."}, {"xxxxxxxx....", []int{2, 4}, false, true, "x...x...x..."}, {"xxx..xxx....", []int{2, 3}, true, false, "x.....x....."}, {"xxxx.x.x....", []int{3, 4}, true, false, "x..x........"},
		// Size 24.
		{bar(24), []int{2, 3, 4, 8}, false, true, bar(24, 0)}, {bar(24, 23), nil, true, true, full(24)}, {full(24), []int{2, 3, 4, 8}, true, true, bar(24, 0)}, {full(23) + ".", nil, false, true, full(24)}, {bar(24, 0, 12), []int{8}, true, true, bar(24, 0, 1, 3, 6, 8, 9, 11, 14, 16, 17, 19, 22)}, {bar(24, 0, 8, 16), []int{3}, true, true, strings.Repeat("x..", 8)}, {full(12) + bar(12), []int{2, 3, 4}, true, true, bar(24, 0, 12)}, {strings.Repeat("x.", 12), []int{3, 4, 8}, true, true, bar(24, 0, 3)}, {strings.Repeat("xx..", 6), []int{2, 3, 8}, true, true, bar(24, 0, 6)}, {strings.Repeat("x..", 8), []int{2, 4, 8}, true, true, bar(24, 0, 8, 16)},
		// The first condition without the second one: 6, 10, 12 or 24 is missing.
		{"xxx..xxx" + bar(10), []int{2, 3}, true, false, bar(18, 0, 6, 12)}, {"xxxxx..xxxxx" + bar(8), []int{2, 5}, true, false, bar(20, 0, 10)}, {"xxx..xxx" + bar(16), []int{2, 3}, true, false, bar(24, 0, 6, 12, 18)}, {strings.Repeat("xxx..xxx....", 2), []int{2, 3, 8}, true, false, bar(24, 0, 6)}, {strings.Repeat("xxxx.x.x....", 2), []int{3, 4, 8}, true, false, bar(24, 0, 3)}, {spacedText("xxx..xxx....", 2), []int{3, 4}, true, false, bar(24, 0, 3, 12, 15)}, {thickText("xxx..xxx....", 2), []int{2, 3, 4}, true, false, bar(24, 0, 12)}, {spacedText("xxxx.x.x....", 2), []int{3, 8}, true, false, bar(24, 0, 3, 6, 9)}, {thickText("xxxx.x.x....", 2), []int{2, 3, 8}, true, false, bar(24, 0, 6)},
		// Neither of both.
		{otherText("xxx..xxx" + bar(10)), []int{2, 3}, false, false, bar(18, 0, 6, 12)}, {otherText("xxx..xxx" + bar(16)), []int{2, 3}, false, false, bar(24, 0, 6, 12, 18)}, {otherText(spacedText("xxxx.x.x....", 2)), []int{3, 8}, false, false, bar(24, 0, 3, 6, 9)},
	} {
		hasConditions(t, c.text, conditions{c.powers, c.first, c.second, c.partner})
	}
}

// conditionTables are what the conditions of all texts are made of.
type conditionTables struct {
	primes   *[1001]int
	divisors [1001][]int
	rests    *[25][24][]int
}

func newConditionTables() *conditionTables {
	return &conditionTables{primeSieve(), divisorSieve(), allPowerRests()}
}

// hasEvenCounts: of the places modulo s, as many are at a number as at the one that is s / p greater.
func hasEvenCounts(text string, s int, p int) bool {
	counts := zeros(s)
	for _, place := range placesOf(text) {
		counts[place%s]++
	}
	for i, count := range counts {
		if count != counts[(i+s/p)%s] {
			return false
		}
	}
	return true
}

func (tables *conditionTables) powersOf(text string) []int {
	var powers []int
	for _, s := range tables.divisors[len(text)] {
		if p := tables.primes[s]; p != 0 && hasEvenCounts(text, s, p) {
			powers = append(powers, s)
		}
	}
	return powers
}

func (tables *conditionTables) ordersOf(text string) []int {
	return textOrders(text, tables.divisors[len(text)], tables.rests)
}

// productOf has false for a set in which a prime occurs twice.
func (tables *conditionTables) productOf(set []int) (int, bool) {
	product := 1
	var primes []int
	for _, s := range set {
		product *= s
		primes = append(primes, tables.primes[s])
	}
	return product, len(differentNumbers(primes)) == len(primes)
}

func (tables *conditionTables) meetSecond(powers []int, orders []int) bool {
	for mask := range 1 << len(powers) {
		var set []int
		for i, s := range powers {
			if mask>>i&1 == 1 {
				set = append(set, s)
			}
		}
		product, ok := tables.productOf(set)
		if ok && product != 1 && !slices.Contains(orders, product) {
			return false
		}
	}
	return true
}

// standardText asks each pulse for its number of steps of t, in the part of each prime. Written in the base of the prime, this number has the digit 0 at the places of the prime powers.
func (tables *conditionTables) standardText(n int, powers []int) string {
	text := ""
	for pulse := range n {
		mark := "x"
		for _, s := range powers {
			p := tables.primes[s]
			if tables.stepsTo(n, pulse, p)/(s/p)%p != 0 {
				mark = "."
			}
		}
		text += mark
	}
	return text
}

// stepsTo looks for the number m below the greatest power of p in n for which m * t differs from the pulse by a multiple of this power.
func (tables *conditionTables) stepsTo(n int, pulse int, p int) int {
	power := 1
	for _, s := range tables.divisors[n] {
		if tables.primes[s] == p {
			power = s
		}
	}
	for m := range power {
		if (m*(n/power)-pulse)%power == 0 {
			return m
		}
	}
	return -1
}

func (tables *conditionTables) conditionsOf(text string) conditions {
	powers := tables.powersOf(text)
	product := 1
	for _, s := range powers {
		product *= tables.primes[s]
	}
	return conditions{
		powers:  powers,
		first:   product == strings.Count(text, "x"),
		second:  tables.meetSecond(powers, tables.ordersOf(text)),
		partner: tables.standardText(len(text), powers),
	}
}

// textsOfConditions has, beside all rhythms of up to 10 pulses, long ones, parts of tilings, and what the bars of the others, spaced, thick or repeated, come to.
func textsOfConditions() []string {
	var texts []string
	for n := 1; n <= 10; n++ {
		texts = append(texts, textsOfSize(n)...)
	}
	random := newRandom()
	for n := 11; n <= 24; n++ {
		for _, text := range longTexts(random, n) {
			texts = append(texts, text, otherText(text))
		}
	}
	for n := 2; n <= 12; n++ {
		for range 20 {
			text := textWithBeats(random, n, random.IntN(n+1))
			for k := 2; k*n <= 24; k++ {
				texts = append(texts, strings.Repeat(text, k), spacedText(text, k), thickText(text, k), text+bar(k*n-n))
			}
		}
	}
	return append(texts, textsThatFail()...)
}

// textsThatFail are made of two rhythms of 12 pulses that meet the first condition alone, in all their forms.
func textsThatFail() []string {
	var texts []string
	for _, bad := range []string{"xxx..xxx....", "xxxx.x.x...."} {
		for _, text := range formTexts(bad) {
			texts = append(texts, text, otherText(text), strings.Repeat(text, 2), spacedText(text, 2), thickText(text, 2), text+bar(12), bar(12)+text, text+full(12))
		}
	}
	return texts
}

func TestConditionsOfManyRhythms(t *testing.T) {
	tables := newConditionTables()
	for _, text := range textsOfConditions() {
		hasConditions(t, text, tables.conditionsOf(text))
	}
}

// TestPrimePowersAreOrders: they are the VanishingOrders that have a prime.
func TestPrimePowersAreOrders(t *testing.T) {
	for _, text := range textsOfConditions() {
		r := rhythmOfText(text)
		var want []int
		for _, d := range impl.VanishingOrders(r) {
			if impl.PrimeOf(d) != 0 {
				want = append(want, d)
			}
		}
		sameInts(t, fmt.Sprintf("PrimePowersOf(%q)", text), impl.PrimePowersOf(r), want)
	}
}

// TestKindsOfConditions: the texts above have each pair of answers, with no prime powers, with one, and with several of the same prime and of different ones.
func TestKindsOfConditions(t *testing.T) {
	tables := newConditionTables()
	found := map[string]bool{}
	for _, text := range textsOfConditions() {
		c := tables.conditionsOf(text)
		primes := map[int]bool{}
		for _, s := range c.powers {
			primes[tables.primes[s]] = true
		}
		found[fmt.Sprint(c.first, " ", c.second, ", powers ", min(len(c.powers), 2), ", primes ", len(primes))] = true
	}
	for _, kind := range []string{
		"true true, powers 0, primes 0", "true true, powers 1, primes 1", "true true, powers 2, primes 1", "true true, powers 2, primes 2",
		"false true, powers 0, primes 0", "false true, powers 1, primes 1", "false true, powers 2, primes 1", "false true, powers 2, primes 2",
		"true false, powers 2, primes 2", "false false, powers 2, primes 2",
	} {
		isBool(t, "there is a text of the kind "+kind, found[kind], true)
	}
}

// TestPartnersMeetTheFirst: up to 12 pulses, all rhythms with partners meet the first condition. No Size here has more than two primes, so that they meet the second one as well.
func TestPartnersMeetTheFirst(t *testing.T) {
	for n := 1; n <= 12; n++ {
		for text, partners := range tiledTexts(n) {
			r := rhythmOfText(text)
			isBool(t, fmt.Sprintf("MeetsFirst(%q), which has %d partners", text, len(partners)), impl.MeetsFirst(r) || len(partners) == 0, true)
			isBool(t, fmt.Sprintf("MeetsBoth(%q)", text), impl.MeetsBoth(r), len(partners) > 0)
			if partner, _ := impl.StandardPartner(r); impl.MeetsBoth(r) {
				isBool(t, fmt.Sprintf("%q has the partner %q", text, textOf(partner)), slices.Contains(partners, textOf(partner)), true)
			}
		}
	}
}

func TestPartsOfTilingsMeetBoth(t *testing.T) {
	for a, b := range tilings {
		for _, text := range []string{a, b} {
			isBool(t, fmt.Sprintf("MeetsFirst(%q)", text), impl.MeetsFirst(rhythmOfText(text)), true)
			isBool(t, fmt.Sprintf("MeetsBoth(%q)", text), impl.MeetsBoth(rhythmOfText(text)), true)
		}
	}
}

// TestStandardPartnersTile: if a rhythm meets both conditions, this is a partner of it, and they meet both conditions in turn.
func TestStandardPartnersTile(t *testing.T) {
	tiled := 0
	for _, text := range textsOfConditions() {
		r := rhythmOfText(text)
		partner, ok := impl.StandardPartner(r)
		label := fmt.Sprintf("%q and %q, its standard partner,", text, textOf(partner))
		isBool(t, label+" are found", ok && partner.Beats[0] == 0, true)
		isBool(t, label+" meet both conditions", impl.MeetsBoth(partner), true)
		isBool(t, label+" tile", impl.IsTiling(r, partner), impl.MeetsBoth(r))
		if impl.MeetsBoth(r) {
			tiled++
			sameInts(t, "the orders left by "+label, impl.OrdersLeft(r, partner), nil)
		}
	}
	isBool(t, fmt.Sprintf("%d tilings are enough", tiled), tiled > 500, true)
}

// TestConditionsOfForms: rotations, mirrors and stretched rhythms have the same prime powers, conditions and standard partners.
func TestConditionsOfForms(t *testing.T) {
	tables := newConditionTables()
	random := newRandom()
	for _, text := range append(textsOf(manyRhythms()), textsThatFail()...) {
		r, n := rhythmOfText(text), len(text)
		want := tables.conditionsOf(text)
		hasConditions(t, turnedText(text, random.IntN(n)), want)
		hasConditions(t, mirroredText(text), want)
		if stretched, ok := impl.StretchRhythm(r, max(n-2, 1)); ok {
			hasConditions(t, textOf(stretched), want)
		}
	}
}

func TestCountMeeting(t *testing.T) {
	for n, row := range [][]int{
		nil,
		{1},
		{1, 1},
		{1, 0, 1},
		{1, 3, 0, 1},
		{1, 0, 0, 0, 1},
		{1, 3, 4, 0, 0, 1},
		{1, 0, 0, 0, 0, 0, 1},
		{1, 7, 0, 11, 0, 0, 0, 1},
		{1, 0, 10, 0, 0, 0, 0, 0, 1},
		{1, 5, 0, 0, 16, 0, 0, 0, 0, 1},
	} {
		for i, want := range row {
			sameInt(t, fmt.Sprintf("CountMeeting(%d, %d)", n, i+1), impl.CountMeeting(n, i+1), want)
		}
	}
}

func TestCountsOfMeetingRhythms(t *testing.T) {
	tables := newConditionTables()
	for n := 1; n <= 10; n++ {
		counts, tiling := zeros(n+1), zeros(n+1)
		for text, partners := range tiledTexts(n) {
			c, k := tables.conditionsOf(text), strings.Count(text, "x")
			if text[0] == 'x' && c.first && c.second {
				counts[k]++
			}
			if text[0] == 'x' && len(partners) > 0 {
				tiling[k]++
			}
		}
		sameInts(t, fmt.Sprintf("the numbers of rhythms of %d pulses with partners", n), tiling, counts)
		for k := 1; k <= n; k++ {
			sameInt(t, fmt.Sprintf("CountMeeting(%d, %d)", n, k), impl.CountMeeting(n, k), counts[k])
		}
	}
}

func TestNoCountsOfMeetingRhythms(t *testing.T) {
	for _, n := range append(numbersAround(10), 12, 13, 16, 24, 25, 1<<32+4) {
		for _, k := range append(numbersAround(10), n-1, n, n+1, 1<<32+1) {
			if n < 1 || n > 10 || k < 1 || k > n {
				sameInt(t, fmt.Sprintf("CountMeeting(%d, %d)", n, k), impl.CountMeeting(n, k), -1)
			}
		}
	}
}

// leaveOrders checks both orders of a and b.
func leaveOrders(t *testing.T, a string, b string, want []int) {
	t.Helper()
	x, y := rhythmOfText(a), rhythmOfText(b)
	sameInts(t, fmt.Sprintf("OrdersLeft(%q, %q)", a, b), impl.OrdersLeft(x, y), want)
	sameInts(t, fmt.Sprintf("OrdersLeft(%q, %q)", b, a), impl.OrdersLeft(y, x), want)
}

func TestOrdersLeft(t *testing.T) {
	for _, c := range []struct {
		a    string
		b    string
		want []int
	}{
		// Size 1, no beats, one beat, and a beat on every pulse.
		{"x", "x", nil}, {"x", ".", nil}, {".", ".", nil}, {"x.", "x.", []int{2}}, {"x.", ".x", []int{2}}, {"..", "x.", nil}, {"..", "..", nil}, {bar(12), bar(12, 0), nil}, {bar(12, 3), bar(12, 0), []int{2, 3, 4, 6, 12}}, {bar(13, 0), bar(13, 12), []int{13}}, {bar(13, 0), bar(13, 0, 1), []int{13}}, {bar(24, 0), bar(24, 23), []int{2, 3, 4, 6, 8, 12, 24}}, {bar(24), bar(24, 0, 1), nil}, {full(24), bar(24, 0, 1, 5), nil},
		// Tilings.
		{"xx", "x.", nil}, {"xx..", "x.x.", nil}, {"x..x", ".x.x", nil}, {"xxxx", "..x.", nil}, {"x..x..", "xxx...", nil}, {"x..x..", "x.x.x.", nil}, {"xx..xx..", "x.x.....", nil}, {"xxx..", "xxxxx", nil}, {"x..x..x..x..", "xx...x......", nil}, {full(12), bar(12, 7), nil}, {bar(24, 0, 12), full(12) + bar(12), nil}, {bar(24, 0, 8, 16), full(8) + bar(16), nil}, {full(24), bar(24, 5), nil},
		// None are left, and still no tilings.
		{"xx", "xx", nil}, {"xxxx", "xx..", nil}, {"xxxx", "xxx.", nil}, {"....", "x...", nil}, {"xxxxxx", "xxxxxx", nil}, {full(24), bar(24, 0, 12), nil},
		// Some are left.
		{"xx..", "xx..", []int{4}}, {"x.x.", "x.x.", []int{2}}, {"x.x.", "xxx.", []int{2}}, {"x...", "xxx.", []int{2, 4}}, {"xx....", "x.....", []int{3, 6}}, {"xx....", "xxx...", []int{6}}, {"x..x..", "x..x..", []int{3}}, {"xxx...", "xxx...", []int{2, 6}}, {"x..x..x.", "x..x..x.", []int{2, 4, 8}}, {"x...x...", "xx......", []int{4}}, {"xxx..xxx....", "x.....x.....", []int{6}}, {"xxxx.x.x....", "x..x........", []int{12}}, {bar(24, 0, 12), bar(24, 0), []int{2, 3, 4, 6, 12}}, {bar(24, 0, 12), bar(24, 0, 8, 16), []int{2, 4}}, {bar(24, 0, 1), bar(24, 0, 1), []int{3, 4, 6, 8, 12, 24}}, {bar(24, 0, 1), bar(24, 0, 8, 16), []int{4, 8}},
	} {
		leaveOrders(t, c.a, c.b, c.want)
	}
}

func (tables *conditionTables) ordersLeft(a string, b string) []int {
	var left []int
	ordersA, ordersB := tables.ordersOf(a), tables.ordersOf(b)
	for _, d := range tables.divisors[len(a)][1:] {
		if !slices.Contains(ordersA, d) && !slices.Contains(ordersB, d) {
			left = append(left, d)
		}
	}
	return left
}

func TestOrdersLeftByManyPairs(t *testing.T) {
	tables := newConditionTables()
	for n := 1; n <= 6; n++ {
		for _, a := range textsOfSize(n) {
			for _, b := range textsOfSize(n) {
				leaveOrders(t, a, b, tables.ordersLeft(a, b))
			}
		}
	}
	random := newRandom()
	for n := 7; n <= 24; n++ {
		texts := longTexts(random, n)
		for range 300 {
			a, b := texts[random.IntN(len(texts))], texts[random.IntN(len(texts))]
			leaveOrders(t, a, b, tables.ordersLeft(a, b))
		}
	}
}

// ordersTellTiling: a sum is a tiling exactly if no orders are left and the product of the numbers of beats is Size.
func ordersTellTiling(t *testing.T, a string, b string, tile bool) {
	t.Helper()
	x, y := rhythmOfText(a), rhythmOfText(b)
	label := fmt.Sprintf("%q and %q", a, b)
	isBool(t, "IsTiling of "+label, impl.IsTiling(x, y), tile)
	isBool(t, "the orders tell a tiling of "+label, len(impl.OrdersLeft(x, y)) == 0 && impl.CountBeats(x)*impl.CountBeats(y) == len(a), tile)
}

func TestOrdersLeftTellTilings(t *testing.T) {
	for n := 1; n <= 7; n++ {
		for _, a := range textsOfSize(n) {
			for _, b := range textsOfSize(n) {
				ordersTellTiling(t, a, b, textsTile(a, b))
			}
		}
	}
	for a, b := range tilings {
		ordersTellTiling(t, a, b, true)
	}
}

// TestOrdersLeftTellNoTilings has pairs with the right numbers of beats, few of which tile.
func TestOrdersLeftTellNoTilings(t *testing.T) {
	random := newRandom()
	for n := 8; n <= 24; n++ {
		for k := 1; k <= n; k++ {
			for range 30 {
				a, b := textWithBeats(random, n, k), textWithBeats(random, n, n/k)
				ordersTellTiling(t, a, b, textsTile(a, b))
				c := strings.Repeat("x"+bar(n/k-1), k) + bar(n-n/k*k)
				ordersTellTiling(t, c, b, textsTile(c, b))
			}
		}
	}
}

// leaveNoOrders takes two rhythms of which one is not valid, or that have different Sizes.
func leaveNoOrders(t *testing.T, badA impl.Rhythm, badB impl.Rhythm) {
	t.Helper()
	a, memoryA := withSpare(badA)
	b, memoryB := withSpare(badB)
	beforeA, beforeB := slices.Clone(memoryA), slices.Clone(memoryB)
	label := "OrdersLeft of " + shortName(badA) + " and " + shortName(badB)
	sameInts(t, label, impl.OrdersLeft(a, b), nil)
	if !slices.Equal(memoryA, beforeA) || !slices.Equal(memoryB, beforeB) {
		t.Errorf("%s changes its arguments", label)
	}
}

func TestRhythmsOfDifferentSizesLeaveNoOrders(t *testing.T) {
	for a := 1; a <= 24; a++ {
		for b := 1; b <= 24; b++ {
			if a != b {
				leaveNoOrders(t, rhythmOfMask(a, 1), rhythmOfMask(b, 1))
				leaveNoOrders(t, rhythmOfMask(a, 1), rhythmOfMask(b, 0))
				leaveNoOrders(t, rhythmOfMask(a, -1), rhythmOfMask(b, 1))
				leaveNoOrders(t, rhythmOfMask(a, 5), rhythmOfMask(b, 3))
			}
		}
	}
}

// moreInvalidRhythms have the remainders of rhythms that meet both conditions, in lists that are not valid.
func moreInvalidRhythms() []impl.Rhythm {
	list := []impl.Rhythm{{Size: 25, Beats: numbersUpTo(25)}, {Size: 25, Beats: []int{0, 5, 10, 15, 20}}, {Size: 26, Beats: []int{0, 13}}, {Size: -1, Beats: []int{0}}, {Size: -2, Beats: []int{0, 1}}, {Size: 1000, Beats: []int{0, 500}}, {Size: 1 << 62, Beats: []int{0}}}
	for _, beats := range [][]int{{-8}, {8}, {-1, 0}, {-7, 0}, {7, 8}, {0, 9}, {1, 0}, {4, 0}, {0, 0}, {0, 4, 4}, {0, 1, 5, 4}, {0, 1, 4, 13}} {
		list = append(list, impl.Rhythm{Size: 8, Beats: beats})
	}
	return list
}

func TestInvalidRhythmsMeetNoConditions(t *testing.T) {
	for _, bad := range append(invalidRhythms(), moreInvalidRhythms()...) {
		r, memory := withSpare(bad)
		before := slices.Clone(memory)
		name := shortName(bad)
		sameInts(t, "PrimePowersOf "+name, impl.PrimePowersOf(r), nil)
		isBool(t, "MeetsFirst of "+name, impl.MeetsFirst(r), false)
		isBool(t, "MeetsSecond of "+name, impl.MeetsSecond(r), false)
		isBool(t, "MeetsBoth of "+name, impl.MeetsBoth(r), false)
		partner, ok := impl.StandardPartner(r)
		isNoRhythm(t, "StandardPartner of "+name, partner, ok)
		if !slices.Equal(memory, before) {
			t.Errorf("a function of conditions changes %s", name)
		}
		for _, good := range []string{".", "x", "x.", "........", "x.......", "x...x...", full(8), bar(24), bar(24, 5), full(24)} {
			leaveNoOrders(t, bad, rhythmOfText(good))
			leaveNoOrders(t, rhythmOfText(good), bad)
		}
		for _, other := range invalidRhythms() {
			leaveNoOrders(t, bad, other)
		}
		leaveNoOrders(t, bad, bad)
	}
}

// TestConditionsWithoutBeats holds a nil list of beats against an empty one, and against one with memory behind it.
func TestConditionsWithoutBeats(t *testing.T) {
	primes, divisors := primeSieve(), divisorSieve()
	for n := 1; n <= 24; n++ {
		powers := slices.DeleteFunc(slices.Clone(divisors[n]), func(d int) bool { return primes[d] == 0 })
		for _, r := range []impl.Rhythm{{Size: n}, {Size: n, Beats: []int{}}, {Size: n, Beats: []int{0, 0, 7}[:0]}} {
			label := fmt.Sprintf(" without beats and Size %d", n)
			sameInts(t, "PrimePowersOf"+label, impl.PrimePowersOf(r), powers)
			isBool(t, "MeetsFirst"+label, impl.MeetsFirst(r), false)
			isBool(t, "MeetsSecond"+label, impl.MeetsSecond(r), true)
			isBool(t, "MeetsBoth"+label, impl.MeetsBoth(r), false)
			partner, ok := impl.StandardPartner(r)
			isRhythm(t, "StandardPartner"+label, partner, ok, rhythmOfText(bar(n, 0)))
			for _, other := range []impl.Rhythm{r, rhythmOfText(bar(n, 0)), rhythmOfText(full(n))} {
				sameInts(t, "OrdersLeft"+label, impl.OrdersLeft(r, other), nil)
				sameInts(t, "OrdersLeft of another rhythm and one"+label, impl.OrdersLeft(other, r), nil)
			}
		}
	}
}

// textsWithConditions has rhythms that are their own standard partners or those of others, so that a function could return its argument.
func textsWithConditions() []string {
	return append(textsWithPolynomials(), "....", "x.....", "x.x.x.", "x...x...", "xxxx....", "xxx..xxx....", "xxxx.x.x....", "x..x........", "xx.xx.......", strings.Repeat("x..", 8), bar(13, 0), full(13), bar(24, 0, 6, 12, 18))
}

func TestReturnedConditionsAreNew(t *testing.T) {
	for _, text := range textsWithConditions() {
		r, memory := withSpare(rhythmOfText(text))
		before := slices.Clone(memory)
		isNewList(t, fmt.Sprintf("PrimePowersOf(%q)", text), func() []int { return impl.PrimePowersOf(r) })
		isNewMemory(t, fmt.Sprintf("StandardPartner(%q)", text), func() impl.Rhythm { partner, _ := impl.StandardPartner(r); return partner })
		impl.MeetsFirst(r)
		impl.MeetsSecond(r)
		impl.MeetsBoth(r)
		sameInts(t, fmt.Sprintf("the beats of %q after its conditions", text), memory, before)
	}
}

// TestReturnedOrdersAreNew has pairs of different Sizes as well, and each rhythm with itself, in the same memory.
func TestReturnedOrdersAreNew(t *testing.T) {
	for _, textA := range textsWithConditions() {
		for _, textB := range textsWithConditions() {
			a, memoryA := withSpare(rhythmOfText(textA))
			b, memoryB := withSpare(rhythmOfText(textB))
			beforeA, beforeB := slices.Clone(memoryA), slices.Clone(memoryB)
			isNewList(t, fmt.Sprintf("OrdersLeft(%q, %q)", textA, textB), func() []int { return impl.OrdersLeft(a, b) })
			isNewList(t, fmt.Sprintf("OrdersLeft(%q, %q)", textA, textA), func() []int { return impl.OrdersLeft(a, a) })
			sameInts(t, fmt.Sprintf("the beats of %q after OrdersLeft", textA), memoryA, beforeA)
			sameInts(t, fmt.Sprintf("the beats of %q after OrdersLeft", textB), memoryB, beforeB)
		}
	}
}

func askForConditions() {
	for _, r := range append(manyRhythms(), invalidRhythms()...) {
		impl.PrimePowersOf(r)
		impl.MeetsFirst(r)
		impl.MeetsSecond(r)
		impl.MeetsBoth(r)
		impl.StandardPartner(r)
		impl.OrdersLeft(r, r)
	}
	for n := range 12 {
		for k := range n + 2 {
			impl.CountMeeting(n, k)
		}
	}
}

// TestConditionsLeaveNoGoroutine: a bubble fails if one of its goroutines waits although the function is at its end.
func TestConditionsLeaveNoGoroutine(t *testing.T) {
	synctest.Test(t, func(t *testing.T) { askForConditions() })
}

// TestConditionsAreFinal overwrites the beats as soon as a function is at its end: none of its goroutines may still read them.
func TestConditionsAreFinal(t *testing.T) {
	tables := newConditionTables()
	for _, text := range append(textsWithConditions(), textsThatFail()...) {
		want := tables.conditionsOf(text)
		for range 20 {
			r := rhythmOfText(text)
			powers := impl.PrimePowersOf(r)
			clear(r.Beats)
			sameInts(t, fmt.Sprintf("PrimePowersOf(%q) after its beats were changed", text), powers, want.powers)
			r = rhythmOfText(text)
			partner, ok := impl.StandardPartner(r)
			clear(r.Beats)
			isRhythm(t, fmt.Sprintf("StandardPartner(%q) after its beats were changed", text), partner, ok, rhythmOfText(want.partner))
		}
	}
}

// TestConditionsInAnyOrder asks with one processor and with many, each time many goroutines at once for the same rhythms, in the same memory.
func TestConditionsInAnyOrder(t *testing.T) {
	tables := newConditionTables()
	defer runtime.GOMAXPROCS(runtime.GOMAXPROCS(0))
	for _, processors := range []int{1, 2, 8} {
		runtime.GOMAXPROCS(processors)
		var wait sync.WaitGroup
		for _, text := range append(textsWithConditions(), textsThatFail()...) {
			want := tables.conditionsOf(text)
			for range 10 {
				wait.Go(func() { hasConditions(t, text, want) })
			}
		}
		wait.Go(func() { sameInt(t, "CountMeeting(8, 4)", impl.CountMeeting(8, 4), 11) })
		wait.Wait()
	}
}

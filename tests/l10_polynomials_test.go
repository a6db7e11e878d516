package tests

import (
	"fmt"
	"math"
	"math/big"
	"math/cmplx"
	"math/rand/v2"
	"slices"
	"strings"
	"testing"

	"loop.example/g03204/impl"
)

// The expected values of this file are made of sieves, of a written table of polynomials, of rests of single powers, of complex numbers, and of great numbers in place of x.

// divisorSieve has, for each n from 1 to 1000, the divisors: each d is entered at its multiples.
func divisorSieve() [1001][]int {
	var lists [1001][]int
	for d := 1; d <= 1000; d++ {
		for n := d; n <= 1000; n += d {
			lists[n] = append(lists[n], d)
		}
	}
	return lists
}

// totientSieve leaves, of the numbers from 1 to n, those that no prime divisor of n divides.
func totientSieve() [1001]int {
	var counts [1001]int
	for n := range counts {
		counts[n] = n
	}
	for p := 2; p <= 1000; p++ {
		if counts[p] == p {
			for n := p; n <= 1000; n += p {
				counts[n] -= counts[n] / p
			}
		}
	}
	return counts
}

func hasDivisors(t *testing.T, n int, divisors []int, totient int) {
	t.Helper()
	sameInts(t, fmt.Sprintf("DivisorsOf(%d)", n), impl.DivisorsOf(n), divisors)
	sameInt(t, fmt.Sprintf("Totient(%d)", n), impl.Totient(n), totient)
}

func TestDivisorsOfAllNumbers(t *testing.T) {
	divisors, totients := divisorSieve(), totientSieve()
	for n := 1; n <= 1000; n++ {
		hasDivisors(t, n, divisors[n], totients[n])
	}
}

func TestDivisorsOf(t *testing.T) {
	for _, c := range []struct {
		n        int
		divisors []int
		totient  int
	}{
		{1, []int{1}, 1}, {2, []int{1, 2}, 1}, {3, []int{1, 3}, 2},
		// Squares, primes, and others.
		{4, []int{1, 2, 4}, 2}, {9, []int{1, 3, 9}, 6}, {36, []int{1, 2, 3, 4, 6, 9, 12, 18, 36}, 12}, {49, []int{1, 7, 49}, 42}, {900, []int{1, 2, 3, 4, 5, 6, 9, 10, 12, 15, 18, 20, 25, 30, 36, 45, 50, 60, 75, 90, 100, 150, 180, 225, 300, 450, 900}, 240}, {961, []int{1, 31, 961}, 930},
		{5, []int{1, 5}, 4}, {23, []int{1, 23}, 22}, {101, []int{1, 101}, 100}, {997, []int{1, 997}, 996},
		{6, []int{1, 2, 3, 6}, 2}, {8, []int{1, 2, 4, 8}, 4}, {12, []int{1, 2, 3, 4, 6, 12}, 4}, {24, []int{1, 2, 3, 4, 6, 8, 12, 24}, 8}, {30, []int{1, 2, 3, 5, 6, 10, 15, 30}, 8}, {512, []int{1, 2, 4, 8, 16, 32, 64, 128, 256, 512}, 256}, {998, []int{1, 2, 499, 998}, 498}, {999, []int{1, 3, 9, 27, 37, 111, 333, 999}, 648},
		{1000, []int{1, 2, 4, 5, 8, 10, 20, 25, 40, 50, 100, 125, 200, 250, 500, 1000}, 400},
	} {
		hasDivisors(t, c.n, c.divisors, c.totient)
	}
}

func TestNoDivisors(t *testing.T) {
	for _, n := range append(extremes(), 0, -1, -2, -6, -12, -1000, -1001, 1001, 1002, 1003, 1008, 1024, 2000, 5040, 1<<32+1, 1<<32+12, 1<<62, -1<<62) {
		hasDivisors(t, n, nil, 0)
	}
}

// TestTotientsOfDivisors: each of the numbers from 1 to n has one of the divisors as its greatest common divisor with n.
func TestTotientsOfDivisors(t *testing.T) {
	for n := 1; n <= 1000; n++ {
		sum := 0
		for _, d := range impl.DivisorsOf(n) {
			sum += impl.Totient(d)
		}
		sameInt(t, fmt.Sprintf("the sum of Totient of the divisors of %d", n), sum, n)
	}
}

// textPolynomial leaves out the points at the end.
func textPolynomial(text string) []int {
	var list []int
	for _, c := range strings.TrimRight(text, ".") {
		list = append(list, strings.IndexRune(".x", c))
	}
	return list
}

func TestPolynomialsOfManyRhythms(t *testing.T) {
	for _, r := range manyRhythms() {
		sameInts(t, fmt.Sprintf("PolynomialOf(%v)", r), impl.PolynomialOf(r), textPolynomial(textOf(r)))
	}
}

func TestPolynomialOf(t *testing.T) {
	for _, c := range []struct {
		text string
		want []int
	}{
		// No beats, one beat, and a beat on every pulse.
		{".", nil}, {"..", nil}, {bar(12), nil}, {bar(24), nil}, {"x", []int{1}}, {"x.", []int{1}}, {".x", []int{0, 1}}, {"..x.", []int{0, 0, 1}}, {bar(12, 0), []int{1}}, {bar(12, 11), append(zeros(11), 1)}, {bar(12, 10), append(zeros(10), 1)}, {bar(24, 0), []int{1}}, {bar(24, 12), append(zeros(12), 1)}, {bar(24, 22), append(zeros(22), 1)}, {bar(24, 23), append(zeros(23), 1)}, {"xx", []int{1, 1}}, {full(12), ones(12)}, {full(24), ones(24)},
		// The last beat is on the last pulse, on the one before it, and earlier.
		{"x.x", []int{1, 0, 1}}, {".xx", []int{0, 1, 1}}, {"x.x.", []int{1, 0, 1}}, {"xxx.", []int{1, 1, 1}}, {"x..x..x.", []int{1, 0, 0, 1, 0, 0, 1}}, {".x..x..x", []int{0, 1, 0, 0, 1, 0, 0, 1}}, {"xx......", []int{1, 1}}, {"x..x..x..x..", []int{1, 0, 0, 1, 0, 0, 1, 0, 0, 1}}, {full(11) + ".", ones(11)}, {full(23) + ".", ones(23)}, {"." + full(23), append([]int{0}, ones(23)...)}, {bar(24, 0, 23), append(append([]int{1}, zeros(22)...), 1)}, {bar(24, 1, 2, 22), append(append([]int{0, 1, 1}, zeros(19)...), 1)}, {full(12) + bar(12), ones(12)},
	} {
		sameInts(t, fmt.Sprintf("PolynomialOf(%q)", c.text), impl.PolynomialOf(rhythmOfText(c.text)), c.want)
	}
}

// greatX is much greater than any element of these tests, so that a value at it tells all of them.
var greatX = big.NewInt(1_000_000_000_000)

func valueOf(list []int, x *big.Int) *big.Int {
	value, power := new(big.Int), big.NewInt(1)
	for _, c := range list {
		value.Add(value, new(big.Int).Mul(big.NewInt(int64(c)), power))
		power.Mul(power, x)
	}
	return value
}

// isProduct checks both orders of a and b.
func isProduct(t *testing.T, a []int, b []int, want []int) {
	t.Helper()
	for _, pair := range [][2][]int{{a, b}, {b, a}} {
		got, ok := impl.TimesPolynomials(pair[0], pair[1])
		label := fmt.Sprintf("TimesPolynomials(%v, %v)", pair[0], pair[1])
		isBool(t, "the bool of "+label, ok, true)
		sameInts(t, label, got, want)
	}
}

func isNoProduct(t *testing.T, a []int, b []int) {
	t.Helper()
	for _, pair := range [][2][]int{{a, b}, {b, a}} {
		if got, ok := impl.TimesPolynomials(pair[0], pair[1]); ok || len(got) > 0 {
			t.Errorf("TimesPolynomials of lists of %d and %d elements = %v, %t, want nil, false", len(pair[0]), len(pair[1]), got, ok)
		}
	}
}

// multiplies asks for the one list that has the product of the values as its value: its elements are small beside greatX.
func multiplies(t *testing.T, a []int, b []int) {
	t.Helper()
	got, ok := impl.TimesPolynomials(a, b)
	label := fmt.Sprintf("TimesPolynomials(%v, %v) = %v, %t", a, b, got, ok)
	want := new(big.Int).Mul(valueOf(a, greatX), valueOf(b, greatX))
	if !ok || valueOf(got, greatX).Cmp(want) != 0 {
		t.Errorf("%s has another value at %v", label, greatX)
	}
	if len(got) > 0 && (got[len(got)-1] == 0 || slices.Min(got) < -40_000_000 || slices.Max(got) > 40_000_000) {
		t.Errorf("%s ends with 0 or has too great elements", label)
	}
}

// randomList has some zeros in it, but none at its end.
func randomList(random *rand.Rand, length int, most int) []int {
	list := zeros(length)
	for i := range list {
		if random.IntN(3) > 0 || i == length-1 {
			list[i] = (random.IntN(most) + 1) * (1 - 2*random.IntN(2))
		}
	}
	return list
}

func TestProductsOfManyPolynomials(t *testing.T) {
	random := newRandom()
	for a := range 41 {
		for b := range 41 {
			multiplies(t, randomList(random, a, 1000), randomList(random, b, 1000))
			multiplies(t, randomList(random, a, 1), randomList(random, b, 1))
		}
	}
}

func TestTimesPolynomials(t *testing.T) {
	signs := []int{1, -1, 1, -1, 1, -1, 1, -1}
	for _, c := range []struct {
		a    []int
		b    []int
		want []int
	}{
		// The zero polynomial as one factor and as both.
		{nil, nil, nil}, {nil, []int{}, nil}, {[]int{}, []int{}, nil}, {nil, []int{1}, nil}, {[]int{}, []int{3, 0, -2}, nil}, {nil, ones(40), nil}, {[]int{}, times(-1000, 40), nil},
		// One element.
		{[]int{1}, []int{1}, []int{1}}, {[]int{1}, []int{0, 5}, []int{0, 5}}, {[]int{-1}, []int{1, 0, -3}, []int{-1, 0, 3}}, {[]int{7}, []int{-6}, []int{-42}}, {[]int{0, 1}, []int{1, 2, 3}, []int{0, 1, 2, 3}}, {[]int{0, 0, 2}, []int{0, 0, 0, -3}, []int{0, 0, 0, 0, 0, -6}},
		{[]int{1, 1}, []int{-1, 1}, []int{-1, 0, 1}}, {[]int{1, 1}, []int{1, 1}, []int{1, 2, 1}}, {[]int{1, 2, 3}, []int{4, 5}, []int{4, 13, 22, 15}}, {[]int{2, -1}, []int{0, 3, 1}, []int{0, 6, -1, -1}},
		// Products with 0 in the middle.
		{[]int{-1, 1}, ones(8), []int{-1, 0, 0, 0, 0, 0, 0, 0, 1}}, {[]int{1, 1}, signs, []int{1, 0, 0, 0, 0, 0, 0, 0, -1}}, {[]int{1, 1, 1}, []int{1, -1, 1}, []int{1, 0, 1, 0, 1}}, {[]int{1, 0, 1}, []int{1, 0, -1}, []int{1, 0, 0, 0, -1}}, {[]int{1, 0, 0, 1}, []int{1, 1}, []int{1, 1, 0, 1, 1}}, {[]int{2, 1}, []int{4, -2, 1}, []int{8, 0, 0, 1}},
		// 40 elements, and elements of -1000 and 1000.
		{ones(40), []int{1}, ones(40)}, {ones(40), []int{-1, 1}, append(append([]int{-1}, zeros(39)...), 1)}, {append(zeros(39), 1), append(zeros(39), -1), append(zeros(78), -1)}, {append(zeros(39), 1000), []int{0, -1000}, append(zeros(40), -1000000)}, {[]int{1000}, []int{1000}, []int{1000000}}, {[]int{-1000}, []int{1000}, []int{-1000000}}, {[]int{-1000}, []int{-1000}, []int{1000000}}, {[]int{1000, -1000}, []int{1000, 1000}, []int{1000000, 0, -1000000}}, {[]int{-1000, 0, 1000}, []int{3}, []int{-3000, 0, 3000}},
	} {
		isProduct(t, c.a, c.b, c.want)
	}
}

// TestGreatestProducts has 40 elements of 1000: the one in the middle of the product is the sum of 40 millions.
func TestGreatestProducts(t *testing.T) {
	var want, negative []int
	for i := range 79 {
		want = append(want, 1000000*min(i+1, 79-i))
		negative = append(negative, -1000000*min(i+1, 79-i))
	}
	sameInt(t, "the greatest element", slices.Max(want), 40000000)
	isProduct(t, times(1000, 40), times(1000, 40), want)
	isProduct(t, times(-1000, 40), times(-1000, 40), want)
	isProduct(t, times(1000, 40), times(-1000, 40), negative)
}

func noPolynomials() [][]int {
	return [][]int{
		// Lists that end with 0.
		{0}, {0, 0}, {1, 0}, {1, 1, 0}, {-1000, 1000, 0}, {0, 1, 0, 0}, zeros(40), append(ones(39), 0),
		// More than 40 elements.
		ones(41), times(-1, 41), append(zeros(40), 1), append(ones(40), 0), ones(42), zeros(41), ones(100000),
		// Elements that are not from -1000 to 1000, at the beginning, in the middle and at the end.
		{1001}, {-1001}, {1001, 1}, {-1001, 1}, {1, 1001}, {1, -1001}, {1, 1001, 1}, {1, -1001, 1}, {0, 2000, 3}, append([]int{1001}, ones(39)...), append(ones(39), 1001), append(ones(39), -1001), append([]int{1, 2, -1001}, ones(20)...),
		{math.MaxInt64}, {math.MinInt64}, {math.MinInt64, 1}, {1, math.MinInt64}, {1, math.MaxInt64}, {math.MinInt64 + 1, 1}, {1 << 32, 1}, {1 << 62, 2}, {1<<32 + 1}, {1, 1<<63 - 1, 1},
	}
}

func TestNoProducts(t *testing.T) {
	for _, bad := range noPolynomials() {
		for _, other := range [][]int{nil, {}, {1}, {0, 1}, {1, 1}, {-1, 1}, {1000}, ones(40), bad} {
			isNoProduct(t, bad, other)
		}
	}
	for _, bad := range noPolynomials() {
		for _, other := range noPolynomials() {
			isNoProduct(t, bad, other)
		}
	}
}

// TestProductsOfRhythms: the coefficients of the product, around, are the counts of the sum.
func TestProductsOfRhythms(t *testing.T) {
	random := newRandom()
	for n := 1; n <= 24; n++ {
		for range 30 {
			a, b := textWithBeats(random, n, random.IntN(n+1)), textWithBeats(random, n, random.IntN(n+1))
			product, ok := impl.TimesPolynomials(impl.PolynomialOf(rhythmOfText(a)), impl.PolynomialOf(rhythmOfText(b)))
			counts := zeros(n)
			for i, c := range product {
				counts[i%n] += c
			}
			label := fmt.Sprintf("the product of %q and %q, around", a, b)
			isBool(t, "the bool of "+label, ok, true)
			sameInts(t, label, counts, impl.SumCounts(rhythmOfText(a), rhythmOfText(b)))
		}
	}
}

// unityTable has the polynomial of Cyclotomic n at the index n.
func unityTable() [25][]int {
	return [25][]int{
		nil,
		{-1, 1},
		{1, 1},
		{1, 1, 1},
		{1, 0, 1},
		{1, 1, 1, 1, 1},
		{1, -1, 1},
		ones(7),
		{1, 0, 0, 0, 1},
		{1, 0, 0, 1, 0, 0, 1},
		{1, -1, 1, -1, 1},
		ones(11),
		{1, 0, -1, 0, 1},
		ones(13),
		{1, -1, 1, -1, 1, -1, 1},
		{1, -1, 0, 1, -1, 1, 0, -1, 1},
		{1, 0, 0, 0, 0, 0, 0, 0, 1},
		ones(17),
		{1, 0, 0, -1, 0, 0, 1},
		ones(19),
		{1, 0, -1, 0, 1, 0, -1, 0, 1},
		{1, -1, 0, 1, -1, 0, 1, 0, -1, 1, 0, -1, 1},
		{1, -1, 1, -1, 1, -1, 1, -1, 1, -1, 1},
		ones(23),
		{1, 0, 0, 0, -1, 0, 0, 0, 1},
	}
}

func TestCyclotomic(t *testing.T) {
	table := unityTable()
	for n := 1; n <= 24; n++ {
		sameInts(t, fmt.Sprintf("Cyclotomic(%d)", n), impl.Cyclotomic(n), table[n])
	}
	for _, n := range noOrders() {
		sameInts(t, fmt.Sprintf("Cyclotomic(%d)", n), impl.Cyclotomic(n), nil)
	}
}

func noOrders() []int {
	return append(extremes(), 0, -1, -2, -12, -24, -25, 25, 26, 30, 48, 1000, 1<<32, 1<<32+12, 1<<62, -1<<62)
}

// TestProductsOfCyclotomics multiplies, for all divisors d of n in place of n.
func TestProductsOfCyclotomics(t *testing.T) {
	divisors := divisorSieve()
	for n := 1; n <= 24; n++ {
		product, ok := []int{1}, true
		for _, d := range divisors[n] {
			product, ok = impl.TimesPolynomials(product, impl.Cyclotomic(d))
			isBool(t, fmt.Sprintf("the bool of a product with Cyclotomic(%d)", d), ok, true)
		}
		sameInts(t, fmt.Sprintf("the product of Cyclotomic over all divisors of %d", n), product, append(append([]int{-1}, zeros(n-1)...), 1))
	}
}

func rootOfUnity(n int, k int) complex128 {
	return cmplx.Rect(1, 2*math.Pi*float64(k%n)/float64(n))
}

func valueAtRoot(list []int, n int, k int) complex128 {
	sum := complex(0, 0)
	for i, c := range list {
		sum += complex(float64(c), 0) * rootOfUnity(n, i*k)
	}
	return sum
}

func isNear(a complex128, b complex128) bool { return cmplx.Abs(a-b) < 1e-9 }

// TestRootsOfCyclotomics: of the n-th roots of 1, those whose powers are all of them are the roots, and there are as many as the degree is.
func TestRootsOfCyclotomics(t *testing.T) {
	totients := totientSieve()
	for n := 1; n <= 24; n++ {
		list := impl.Cyclotomic(n)
		sameInt(t, fmt.Sprintf("the degree of Cyclotomic(%d)", n), len(list)-1, totients[n])
		for k := 1; k <= n; k++ {
			isBool(t, fmt.Sprintf("the root %d of %d is one of Cyclotomic(%d)", k, n, n), isNear(valueAtRoot(list, n, k), 0), isPrimitive(k, n))
		}
	}
}

func isPrimitive(k int, n int) bool {
	return new(big.Int).GCD(nil, nil, big.NewInt(int64(k)), big.NewInt(int64(n))).Int64() == 1
}

// powerRests has the rests of 1, x, x^2 and so on: the one before is multiplied by x, and what comes to the degree is replaced.
func powerRests(d int) [24][]int {
	divisor := unityTable()[d]
	degree := len(divisor) - 1
	var rests [24][]int
	rest := append([]int{1}, zeros(degree-1)...)
	for i := range rests {
		rests[i] = rest
		next := append([]int{0}, rest[:degree-1]...)
		for j := range next {
			next[j] -= rest[degree-1] * divisor[j]
		}
		rest = next
	}
	return rests
}

// summedRest adds the rests of single powers, and leaves out the zeros at the end.
func summedRest(places []int, rests [24][]int) []int {
	sum := zeros(len(rests[0]))
	for _, p := range places {
		for i, c := range rests[p] {
			sum[i] += c
		}
	}
	for len(sum) > 0 && sum[len(sum)-1] == 0 {
		sum = sum[:len(sum)-1]
	}
	return sum
}

func hasRest(t *testing.T, text string, d int, want []int) {
	t.Helper()
	r := rhythmOfText(text)
	sameInts(t, fmt.Sprintf("RestBy(%q, %d)", text, d), impl.RestBy(r, d), want)
	isBool(t, fmt.Sprintf("VanishesAt(%q, %d)", text, d), impl.VanishesAt(r, d), len(want) == 0)
}

func TestRestsOfManyRhythms(t *testing.T) {
	for d := 1; d <= 24; d++ {
		rests := powerRests(d)
		for _, r := range manyRhythms() {
			hasRest(t, textOf(r), d, summedRest(r.Beats, rests))
		}
	}
}

// TestRestsAtRoots: the rest has the same values as the polynomial at the roots of Cyclotomic d, and there is only one such polynomial of lesser degree.
func TestRestsAtRoots(t *testing.T) {
	totients := totientSieve()
	random := newRandom()
	for d := 1; d <= 24; d++ {
		for n := 1; n <= 24; n++ {
			text := textWithBeats(random, n, random.IntN(n+1))
			rest := impl.RestBy(rhythmOfText(text), d)
			label := fmt.Sprintf("RestBy(%q, %d) = %v", text, d, rest)
			if len(rest) > totients[d] || len(rest) > 0 && rest[len(rest)-1] == 0 {
				t.Errorf("%s has too many elements or ends with 0", label)
			}
			for k := 1; k <= d; k++ {
				if isPrimitive(k, d) && !isNear(valueAtRoot(rest, d, k), valueAtRoot(textPolynomial(text), d, k)) {
					t.Errorf("%s has another value at the root %d", label, k)
				}
			}
		}
	}
}

func TestRestBy(t *testing.T) {
	for _, c := range []struct {
		text string
		d    int
		want []int
	}{
		// No beats.
		{".", 1, nil}, {".", 24, nil}, {bar(12), 5, nil}, {bar(24), 1, nil}, {bar(24), 24, nil},
		// Size 1, and d of 1: the number of beats.
		{"x", 1, []int{1}}, {"x", 2, []int{1}}, {"x", 24, []int{1}}, {"x..x..x.", 1, []int{3}}, {"....xx", 1, []int{2}}, {bar(24, 23), 1, []int{1}}, {full(24), 1, []int{24}},
		// d divides Size.
		{"x..x..x.", 2, []int{1}}, {"x..x..x.", 4, []int{0, -1}}, {"x..x..x.", 8, []int{1, 0, -1, 1}}, {"x.x.", 2, []int{2}}, {"x.x.", 4, nil}, {"xx..", 2, nil}, {"xx..", 4, []int{1, 1}}, {".x.x", 2, []int{-2}}, {".x", 2, []int{-1}}, {"..x...", 6, []int{-1, 1}}, {"..x...", 3, []int{-1, -1}}, {"...x..", 6, []int{-1}}, {"x..x..", 6, nil}, {"x..x..", 2, nil}, {"x..x..", 3, []int{2}}, {"xxx...", 3, nil}, {bar(12, 0, 6), 12, nil}, {bar(12, 11), 12, []int{0, 1, 0, -1}}, {bar(24, 23), 24, []int{0, 0, 0, 1, 0, 0, 0, -1}}, {bar(24, 0, 12), 24, nil}, {bar(24, 0, 8, 16), 24, nil}, {bar(24, 0, 8, 16), 12, nil}, {bar(24, 0, 8, 16), 8, []int{3}}, {bar(24, 12, 13), 24, []int{-1, -1}}, {full(24), 2, nil}, {full(24), 24, nil},
		// d does not divide Size, and is less.
		{"x..x..x.", 3, []int{3}}, {"x..x..x.", 5, []int{1, 1, 0, 1}}, {"x..x..x.", 6, []int{1}}, {"x..x..x.", 7, []int{0, -1, -1, 0, -1, -1}}, {"xx...", 2, nil}, {".xx..", 2, nil}, {"x.x..", 4, nil}, {"xxx.", 3, nil}, {"xxxx", 3, []int{1}}, {".xxxxx...", 5, nil}, {bar(24, 0, 1, 2, 3, 4), 5, nil}, {full(24), 5, ones(4)}, {full(24), 7, []int{1, 1, 1}}, {full(24), 23, []int{1}}, {full(23) + ".", 23, nil}, {bar(24, 22), 23, times(-1, 22)}, {bar(24, 23), 23, []int{1}}, {bar(23, 0, 7), 14, nil},
		// d is greater than Size; the rhythm has a lesser degree than Cyclotomic d already, or the same, or a greater one.
		{"x.", 24, []int{1}}, {".x", 3, []int{0, 1}}, {"xx", 3, []int{1, 1}}, {"xx", 4, []int{1, 1}}, {"xxx", 4, []int{0, 1}}, {"xxx", 12, ones(3)}, {"xxxx", 5, ones(4)}, {"xxxxx", 6, []int{-1, 1}}, {"x..x..x.", 9, nil}, {"x..x..x.", 12, []int{0, 0, 0, 1}}, {"x..x..x.", 16, []int{1, 0, 0, 1, 0, 0, 1}}, {"x..x..x.", 24, []int{1, 0, 0, 1, 0, 0, 1}}, {"x..x..x.", 18, []int{0, 0, 0, 2}}, {bar(8, 0, 7), 16, []int{1, 0, 0, 0, 0, 0, 0, 1}}, {bar(9, 0, 8), 16, nil}, {bar(9, 8), 16, []int{-1}}, {bar(9, 8), 24, []int{-1, 0, 0, 0, 1}}, {bar(12, 11), 13, append(zeros(11), 1)}, {full(12), 13, ones(12)}, {bar(12, 11), 23, append(zeros(11), 1)}, {full(22), 23, ones(22)}, {full(23), 24, []int{0, 0, 0, -1, 0, 0, 0, 1}},
	} {
		hasRest(t, c.text, c.d, c.want)
	}
}

// TestRestsAtOtherOrders has d for which there is no rest, also of rhythms that vanish at the greatest orders.
func TestRestsAtOtherOrders(t *testing.T) {
	for _, text := range []string{".", "x", "x.", "xx", "x..x..x.", "x.x.", bar(12), bar(24), bar(24, 0), bar(24, 0, 12), full(24)} {
		for _, d := range noOrders() {
			r := rhythmOfText(text)
			sameInts(t, fmt.Sprintf("RestBy(%q, %d)", text, d), impl.RestBy(r, d), nil)
			isBool(t, fmt.Sprintf("VanishesAt(%q, %d)", text, d), impl.VanishesAt(r, d), false)
		}
	}
}

func textOrders(text string, divisors []int, rests *[25][24][]int) []int {
	var orders []int
	for _, d := range divisors[1:] {
		if len(summedRest(placesOf(text), rests[d])) == 0 {
			orders = append(orders, d)
		}
	}
	return orders
}

func allPowerRests() *[25][24][]int {
	var rests [25][24][]int
	for d := 1; d <= 24; d++ {
		rests[d] = powerRests(d)
	}
	return &rests
}

func hasOrders(t *testing.T, text string, want []int) {
	t.Helper()
	sameInts(t, fmt.Sprintf("VanishingOrders(%q)", text), impl.VanishingOrders(rhythmOfText(text)), want)
}

func TestVanishingOrdersOfManyRhythms(t *testing.T) {
	divisors, rests := divisorSieve(), allPowerRests()
	var texts []string
	for n := 1; n <= 10; n++ {
		texts = append(texts, textsOfSize(n)...)
	}
	random := newRandom()
	for n := 11; n <= 24; n++ {
		texts = append(texts, longTexts(random, n)...)
	}
	for _, text := range texts {
		hasOrders(t, text, textOrders(text, divisors[len(text)], rests))
	}
}

func TestVanishingOrders(t *testing.T) {
	for _, c := range []struct {
		text string
		want []int
	}{
		// Size 1, no beats, one beat, and a beat on every pulse.
		{".", nil}, {"x", nil}, {"..", []int{2}}, {bar(12), []int{2, 3, 4, 6, 12}}, {bar(23), []int{23}}, {bar(24), []int{2, 3, 4, 6, 8, 12, 24}}, {"x.", nil}, {".x", nil}, {bar(12, 7), nil}, {bar(24, 0), nil}, {bar(24, 23), nil}, {"xx", []int{2}}, {"xxxx", []int{2, 4}}, {"xxxxx", []int{5}}, {full(12), []int{2, 3, 4, 6, 12}}, {full(23), []int{23}}, {full(24), []int{2, 3, 4, 6, 8, 12, 24}},
		// No order; those that do not divide Size, and 1, do not count.
		{"x..x..x.", nil}, {"xx...", nil}, {"x.x...", nil}, {"xxx.", nil}, {"xxx..", nil}, {"x.xx", nil}, {"xx.x", nil}, {"xx.....", nil}, {full(11) + ".", nil}, {full(23) + ".", nil}, {bar(24, 0, 1, 2, 3, 4), nil},
		// One order.
		{"xx..", []int{2}}, {".xx.", []int{2}}, {"x.x.", []int{4}}, {"xxx...", []int{3}}, {"x.x.....", []int{4}}, {"x...x...", []int{8}}, {"xxx.........", []int{3}}, {bar(24, 0, 1), []int{2}}, {bar(24, 0, 4), []int{8}}, {bar(24, 5, 6, 7), []int{3}},
		// Several orders.
		{"x..x..", []int{2, 6}}, {"x.x.x.", []int{3, 6}}, {"xx.xx.", []int{2, 6}}, {"xx..xx..", []int{2, 8}}, {"xxxx....", []int{2, 4}}, {"x.x.x.x.", []int{4, 8}}, {bar(12, 0, 6), []int{4, 12}}, {"x..x..x..x..", []int{2, 4, 6, 12}}, {"xx....xx....", []int{2, 4, 12}}, {bar(24, 0, 12), []int{8, 24}}, {bar(24, 11, 23), []int{8, 24}}, {bar(24, 0, 8, 16), []int{3, 6, 12, 24}}, {full(12) + bar(12), []int{2, 3, 4, 6, 12}}, {strings.Repeat("x.", 12), []int{3, 4, 6, 8, 12, 24}}, {"." + full(23), nil},
	} {
		hasOrders(t, c.text, c.want)
	}
}

// TestOrdersOfTilings: for each divisor of Size greater than 1, one of the two parts vanishes.
func TestOrdersOfTilings(t *testing.T) {
	divisors := divisorSieve()
	for a, b := range tilings {
		x, y := rhythmOfText(a), rhythmOfText(b)
		for _, d := range divisors[len(a)][1:] {
			isBool(t, fmt.Sprintf("%q or %q vanishes at %d", a, b, d), impl.VanishesAt(x, d) || impl.VanishesAt(y, d), true)
		}
		orders := differentNumbers(slices.Concat(impl.VanishingOrders(x), impl.VanishingOrders(y)))
		sameInts(t, fmt.Sprintf("the orders of %q and %q", a, b), orders, divisors[len(a)][1:])
	}
}

// TestOrdersTellTilings: if so, and if the product of the numbers of beats is Size, the pair tiles.
func TestOrdersTellTilings(t *testing.T) {
	divisors := divisorSieve()
	for n := 1; n <= 7; n++ {
		texts := textsOfSize(n)
		for _, a := range texts {
			for _, b := range texts {
				x, y := rhythmOfText(a), rhythmOfText(b)
				orders := differentNumbers(slices.Concat(impl.VanishingOrders(x), impl.VanishingOrders(y)))
				tells := len(x.Beats)*len(y.Beats) == n && len(orders) == len(divisors[n])-1
				isBool(t, fmt.Sprintf("%q and %q tile", a, b), tells, textsTile(a, b))
			}
		}
	}
}

// TestOrdersOfForms: a rhythm vanishes at the same divisors of Size as its rotations, its mirror, its stretched rhythms and the other pulses.
func TestOrdersOfForms(t *testing.T) {
	random := newRandom()
	texts := textsOf(manyRhythms())
	for _, n := range []int{12, 16, 18, 20, 24} {
		texts = append(texts, longTexts(random, n)...)
	}
	for _, text := range texts {
		r, n := rhythmOfText(text), len(text)
		want := impl.VanishingOrders(r)
		hasOrders(t, turnedText(text, random.IntN(n)), want)
		hasOrders(t, mirroredText(text), want)
		hasOrders(t, otherText(text), want)
		for u := 1; u < n; u++ {
			if stretched, ok := impl.StretchRhythm(r, u); ok {
				hasOrders(t, textOf(stretched), want)
			}
		}
	}
}

// TestOrdersOfBars: k bars vanish where one bar does, and at all divisors that are not those of one bar.
func TestOrdersOfBars(t *testing.T) {
	divisors := divisorSieve()
	for n := 1; n <= 8; n++ {
		for _, text := range textsOfSize(n) {
			orders := impl.VanishingOrders(rhythmOfText(text))
			for k := 1; k*n <= 24; k++ {
				var want []int
				for _, d := range divisors[k*n] {
					if n%d != 0 || slices.Contains(orders, d) {
						want = append(want, d)
					}
				}
				hasOrders(t, strings.Repeat(text, k), want)
			}
		}
	}
}

func TestInvalidRhythmsHaveNoPolynomials(t *testing.T) {
	for _, bad := range invalidRhythms() {
		hasNoPolynomial(t, bad)
	}
	for _, beats := range [][]int{{-8}, {8}, {0, 8}, {-1, 0}, {-7, 0}, {7, 8}, {1, 0}, {4, 0}, {0, 0}, {0, 4, 4}, {0, 1, 5, 4}, {0, 1, 4, 13}} {
		hasNoPolynomial(t, impl.Rhythm{Size: 8, Beats: beats})
	}
	for _, bad := range []impl.Rhythm{{Size: 25, Beats: numbersUpTo(25)}, {Size: 25, Beats: []int{0, 24}}, {Size: 26, Beats: []int{0, 13}}, {Size: -2, Beats: []int{0, 1}}, {Size: 1000, Beats: []int{0, 500}}} {
		hasNoPolynomial(t, bad)
	}
}

func hasNoPolynomial(t *testing.T, bad impl.Rhythm) {
	t.Helper()
	r, memory := withSpare(bad)
	before := slices.Clone(memory)
	name := shortName(bad)
	sameInts(t, "PolynomialOf "+name, impl.PolynomialOf(r), nil)
	sameInts(t, "VanishingOrders of "+name, impl.VanishingOrders(r), nil)
	for _, d := range numbersAround(24) {
		sameInts(t, fmt.Sprintf("RestBy %d of %s", d, name), impl.RestBy(r, d), nil)
		isBool(t, fmt.Sprintf("VanishesAt %d of %s", d, name), impl.VanishesAt(r, d), false)
	}
	if !slices.Equal(memory, before) {
		t.Errorf("a function of polynomials changes %s", name)
	}
}

// TestPolynomialsWithoutBeats holds a nil list of beats against an empty one, and against one with memory behind it.
func TestPolynomialsWithoutBeats(t *testing.T) {
	divisors := divisorSieve()
	for n := 1; n <= 24; n++ {
		for _, r := range []impl.Rhythm{{Size: n}, {Size: n, Beats: []int{}}, {Size: n, Beats: []int{0, 0, 7}[:0]}} {
			label := fmt.Sprintf(" without beats and Size %d", n)
			sameInts(t, "PolynomialOf"+label, impl.PolynomialOf(r), nil)
			sameInts(t, "VanishingOrders"+label, impl.VanishingOrders(r), divisors[n][1:])
			for d := 0; d <= 25; d++ {
				sameInts(t, fmt.Sprintf("RestBy %d%s", d, label), impl.RestBy(r, d), nil)
				isBool(t, fmt.Sprintf("VanishesAt %d%s", d, label), impl.VanishesAt(r, d), 1 <= d && d <= 24)
			}
		}
	}
}

func hasValue(t *testing.T, a []int, x int, want int) {
	t.Helper()
	got, ok := impl.ValueAt(a, x)
	label := fmt.Sprintf("ValueAt(%v, %d)", a, x)
	isBool(t, "the bool of "+label, ok, true)
	sameInt(t, label, got, want)
}

func hasNoValue(t *testing.T, a []int, x int) {
	t.Helper()
	if got, ok := impl.ValueAt(a, x); ok || got != 0 {
		t.Errorf("ValueAt of a list of %d elements at %d = %d, %t, want 0, false", len(a), x, got, ok)
	}
}

func TestValuesOfManyPolynomials(t *testing.T) {
	random := newRandom()
	for length := range 26 {
		for range 20 {
			for x := -2; x <= 2; x++ {
				for _, a := range [][]int{randomList(random, length, 1000), randomList(random, length, 1)} {
					hasValue(t, a, x, int(valueOf(a, big.NewInt(int64(x))).Int64()))
				}
			}
		}
	}
}

func TestValueAt(t *testing.T) {
	for _, c := range []struct {
		a      []int
		values [5]int // at -2, -1, 0, 1 and 2
	}{
		// The zero polynomial, and single elements.
		{nil, [5]int{}}, {[]int{}, [5]int{}}, {[]int{1}, [5]int{1, 1, 1, 1, 1}}, {[]int{-7}, [5]int{-7, -7, -7, -7, -7}}, {[]int{0, 1}, [5]int{-2, -1, 0, 1, 2}}, {[]int{0, 0, 3}, [5]int{12, 3, 0, 3, 12}}, {append(zeros(24), 1), [5]int{1 << 24, 1, 0, 1, 1 << 24}}, {append(zeros(23), 1), [5]int{-1 << 23, -1, 0, 1, 1 << 23}},
		{[]int{1, 0, 1}, [5]int{5, 2, 1, 2, 5}}, {[]int{-1, 1}, [5]int{-3, -2, -1, 0, 1}}, {[]int{3, -2, 5, 1}, [5]int{19, 9, 3, 7, 27}}, {[]int{0, 6, -1, -1}, [5]int{-8, -6, 0, 4, 0}}, {[]int{4, 0, -1}, [5]int{0, 3, 4, 3, 0}},
		// 25 elements.
		{ones(25), [5]int{11184811, 1, 1, 25, 33554431}}, {times(1000, 25), [5]int{11184811000, 1000, 1000, 25000, 33554431000}}, {times(-1000, 25), [5]int{-11184811000, -1000, -1000, -25000, -33554431000}}, {append(zeros(24), -1000), [5]int{-16777216000, -1000, 0, -1000, -16777216000}}, {append(append([]int{1000}, zeros(23)...), -1), [5]int{1000 - 1<<24, 999, 1000, 999, 1000 - 1<<24}},
	} {
		for i, want := range c.values {
			hasValue(t, c.a, i-2, want)
		}
		for _, x := range append(extremes(), -1000, -4, -3, 3, 4, 1000, 1<<32, 1<<32+1, 1<<62) {
			hasNoValue(t, c.a, x)
		}
	}
}

func TestNoValues(t *testing.T) {
	lists := append(noPolynomials(), ones(26), times(-1, 26), ones(40), append(zeros(25), 1), append(zeros(39), 1), append(ones(25), 0), append(ones(24), 0), append(ones(24), 1001), append([]int{-1001}, ones(24)...))
	for _, bad := range lists {
		for x := -3; x <= 3; x++ {
			hasNoValue(t, bad, x)
		}
		for _, x := range extremes() {
			hasNoValue(t, bad, x)
		}
	}
}

// TestValuesOfRhythms: the value at 1 is the number of beats, and the one at -1 is that of even pulses without that of odd ones.
func TestValuesOfRhythms(t *testing.T) {
	for _, r := range manyRhythms() {
		odd := 0
		for _, p := range r.Beats {
			odd += p % 2
		}
		hasValue(t, impl.PolynomialOf(r), 1, len(r.Beats))
		hasValue(t, impl.PolynomialOf(r), -1, len(r.Beats)-2*odd)
	}
}

func textsWithPolynomials() []string {
	return append(textsForMemory(), "x.", ".x", "xx..", "xx..xx..", "x.x.....", "x..x..", "xxx...", bar(12), full(12), bar(12, 11), bar(24, 0), bar(24, 23), bar(24, 0, 12), bar(24, 0, 8, 16), full(12)+bar(12))
}

func TestReturnedPolynomialsOfRhythmsAreNew(t *testing.T) {
	for _, text := range textsWithPolynomials() {
		r, memory := withSpare(rhythmOfText(text))
		before := slices.Clone(memory)
		isNewList(t, fmt.Sprintf("PolynomialOf(%q)", text), func() []int { return impl.PolynomialOf(r) })
		isNewList(t, fmt.Sprintf("VanishingOrders(%q)", text), func() []int { return impl.VanishingOrders(r) })
		for d := 0; d <= 25; d++ {
			isNewList(t, fmt.Sprintf("RestBy(%q, %d)", text, d), func() []int { return impl.RestBy(r, d) })
			impl.VanishesAt(r, d)
		}
		sameInts(t, fmt.Sprintf("the beats of %q after its polynomial and its rests", text), memory, before)
	}
}

func TestReturnedDivisorsAreNew(t *testing.T) {
	for n := range 1002 {
		isNewList(t, fmt.Sprintf("DivisorsOf(%d)", n), func() []int { return impl.DivisorsOf(n) })
	}
	for n := range 26 {
		isNewList(t, fmt.Sprintf("Cyclotomic(%d)", n), func() []int { return impl.Cyclotomic(n) })
	}
}

// listWithSpare gives a list a memory that goes on behind it.
func listWithSpare(list []int) ([]int, []int) {
	r, memory := withSpare(impl.Rhythm{Beats: list})
	return r.Beats, memory
}

// TestReturnedProductsAreNew has factors of which the product is the other one, each factor with itself, in the same memory, and lists that are no polynomials.
func TestReturnedProductsAreNew(t *testing.T) {
	lists := append(noPolynomials(), nil, []int{}, []int{1}, []int{-1}, []int{0, 1}, []int{1, 1}, []int{3, 0, -2}, []int{1000, -1000}, ones(25), ones(40), append(zeros(39), 1))
	for _, listA := range lists {
		for _, listB := range lists {
			a, memoryA := listWithSpare(listA)
			b, memoryB := listWithSpare(listB)
			beforeA, beforeB := slices.Clone(memoryA), slices.Clone(memoryB)
			label := fmt.Sprintf("TimesPolynomials of lists of %d and %d elements", len(a), len(b))
			isNewList(t, label, func() []int { product, _ := impl.TimesPolynomials(a, b); return product })
			isNewList(t, label, func() []int { product, _ := impl.TimesPolynomials(a, a); return product })
			impl.ValueAt(a, 2)
			impl.ValueAt(b, -1)
			if !slices.Equal(memoryA, beforeA) || !slices.Equal(memoryB, beforeB) {
				t.Errorf("%s or ValueAt changes a list", label)
			}
		}
	}
}

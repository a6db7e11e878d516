package tests

import (
	"fmt"
	"math"
	"math/big"
	"math/rand/v2"
	"slices"
	"strings"
	"testing"

	"loop.example/g03204/impl"
)

const samples = 2000

// newRandom has a fixed seed, so that a failure can be repeated.
func newRandom() *rand.Rand { return rand.New(rand.NewPCG(2, 1)) }

func randomText(random *rand.Rand, alphabet string, most int) string {
	text := make([]byte, random.IntN(most+1))
	for i := range text {
		text[i] = alphabet[random.IntN(len(alphabet))]
	}
	return string(text)
}

func allBytes() string {
	all := make([]byte, 256)
	for i := range all {
		all[i] = byte(i)
	}
	return string(all)
}

func sameTexts(t *testing.T, label string, got []string, want []string) {
	t.Helper()
	if !slices.Equal(got, want) {
		t.Errorf("%s = %q, want %q", label, got, want)
	}
}

func TestFormatInt(t *testing.T) {
	for n, want := range map[int]string{
		0:                 "0",
		7:                 "7",
		-5:                "-5",
		10:                "10",
		-100:              "-100",
		2000:              "2000",
		math.MaxInt64:     "9223372036854775807",
		math.MinInt64:     "-9223372036854775808",
		math.MinInt64 + 1: "-9223372036854775807",
	} {
		if got := impl.FormatInt(n); got != want {
			t.Errorf("FormatInt(%d) = %q, want %q", n, got, want)
		}
	}
}

func TestFormatIntIsDecimal(t *testing.T) {
	random := newRandom()
	for range samples {
		n := int(random.Uint64()) >> random.IntN(64)
		if got, want := impl.FormatInt(n), big.NewInt(int64(n)).String(); got != want {
			t.Errorf("FormatInt(%d) = %q, want %q", n, got, want)
		}
	}
}

func TestParseIntAccepts(t *testing.T) {
	for s, want := range map[string]int{
		"0":                    0,
		"9":                    9,
		"-1":                   -1,
		"10":                   10,
		"-905":                 -905,
		"9223372036854775807":  math.MaxInt64,
		"-9223372036854775808": math.MinInt64,
	} {
		if got, ok := impl.ParseInt(s); got != want || !ok {
			t.Errorf("ParseInt(%q) = %d, %t, want %d, true", s, got, ok, want)
		}
	}
}

func TestParseIntRefuses(t *testing.T) {
	for _, s := range []string{
		"", "-", "+", "--1", "+1", "+0", "-0", "00", "07", "-07", "007", "-00",
		" 1", "1 ", "1\n", "\t1", "1 2", "1_000", "1,000", "0x1F", "0b1", "0o7", "1e3", "1.0", "1.", ".5",
		"a", "1a", "a1", "12-", "1-2", "Inf", "NaN",
		"9223372036854775808", "-9223372036854775809", "18446744073709551616", "92233720368547758070",
		"1" + strings.Repeat("0", 5000), "-" + strings.Repeat("9", 5000), strings.Repeat("0", 5000),
		"\u0661", "\uff11", "\u22121", "1\x00", "\x001", "\xff", "1\xff", "\xe2\x88", "-\x80",
	} {
		if got, ok := impl.ParseInt(s); got != 0 || ok {
			t.Errorf("ParseInt(%q) = %d, %t, want 0, false", s, got, ok)
		}
	}
}

func TestParseIntRecoversFormatInt(t *testing.T) {
	check := func(n int) {
		s := impl.FormatInt(n)
		if got, ok := impl.ParseInt(s); got != n || !ok {
			t.Errorf("ParseInt(FormatInt(%d)) = %d, %t", n, got, ok)
		}
	}
	for n := -1100; n <= 1100; n++ {
		check(n)
		check(math.MaxInt64 + min(n, 0))
		check(math.MinInt64 + max(n, 0))
	}
	random := newRandom()
	for range samples {
		check(int(random.Uint64()) >> random.IntN(64))
	}
}

func TestParseIntOnlyAcceptsFormattedTexts(t *testing.T) {
	random := newRandom()
	for range 20 * samples {
		s := randomText(random, "0012-+9 ", 4)
		n, ok := impl.ParseInt(s)
		if ok && impl.FormatInt(n) != s || !ok && n != 0 {
			t.Errorf("ParseInt(%q) = %d, %t", s, n, ok)
		}
	}
}

func TestIsDigits(t *testing.T) {
	for s, want := range map[string]bool{
		"0": true, "9": true, "09": true, "000": true, "0123456789": true,
		strings.Repeat("7", 3000): true,
		"":                        false, " ": false, "-1": false, "+1": false, "1 ": false, " 1": false, "1.0": false,
		"a": false, "1a": false, "a1": false, "1a1": false, "/": false, ":": false, "1\n": false, "1\x00": false,
		"\u0661": false, "\uff11": false, "1\u0661": false, "\xff": false, "1\xff": false, "\xb9": false, "0\xc3": false,
	} {
		if got := impl.IsDigits(s); got != want {
			t.Errorf("IsDigits(%q) = %t, want %t", s, got, want)
		}
	}
}

func TestIsName(t *testing.T) {
	for s, want := range map[string]bool{
		"a": true, "z": true, "x1": true, "a0": true, "z9": true, "abcdefgh": true, "a1234567": true, "zz9z": true,
		"": false, "abcdefghi": false, "a12345678": false, strings.Repeat("a", 3000): false,
		"1": false, "1x": false, "0a": false, "12345678": false,
		"A": false, "aB": false, "Z": false, "a_b": false, "_a": false, "a-b": false, "a b": false, " a": false, "a ": false, "a\n": false,
		"`": false, "{": false, "a`": false, "a{": false, "a/": false, "a:": false, "a\x00": false,
		"\u00e9": false, "a\u00e9": false, "a\u0661": false, "\uff41": false, "\xff": false, "a\xff": false, "\xe1": false, "a\x80": false,
	} {
		if got := impl.IsName(s); got != want {
			t.Errorf("IsName(%q) = %t, want %t", s, got, want)
		}
	}
}

func TestNamesAndDigitsOfEachByte(t *testing.T) {
	for c := range 256 {
		s := string([]byte{byte(c)})
		digit := c >= 48 && c <= 57
		letter := c >= 97 && c <= 122
		if impl.IsDigits(s) != digit || impl.IsDigits("5"+s) != digit || impl.IsDigits(s+"5") != digit {
			t.Errorf("IsDigits of byte %d is not %t", c, digit)
		}
		if impl.IsName(s) != letter || impl.IsName(s+"a") != letter || impl.IsName("a"+s) != (letter || digit) {
			t.Errorf("IsName of byte %d is wrong", c)
		}
	}
}

func TestSplitAny(t *testing.T) {
	for _, c := range []struct {
		s    string
		by   string
		want []string
	}{
		{"a,b c", ", ", []string{"a", "b", "c"}},
		{"a,b c", ",", []string{"a", "b c"}},
		{"abc", ",", []string{"abc"}},
		{"abc", "", []string{"abc"}},
		{"", ",", []string{""}},
		{"", "", []string{""}},
		{",", ",", []string{"", ""}},
		{",,", ",", []string{"", "", ""}},
		{",a,", ",", []string{"", "a", ""}},
		{"a, b", ", ", []string{"a", "", "b"}},
		{"a,b", ",,,", []string{"a", "b"}},
		{"aba", "ab", []string{"", "", "", ""}},
		{"a\x00b\xffc", "\xff\x00", []string{"a", "b", "c"}},
		{"\xff\xfe", "\xfe", []string{"\xff", ""}},
		// The bytes of a rune in by are separate, and so are those of a rune in s.
		{"\u00e9a\u00e8", "\u00e9", []string{"", "", "a", "\xa8"}},
		{"a\xa9b", "\u00e9", []string{"a", "b"}},
		{"\u20ac", "\x82", []string{"\xe2", "\xac"}},
		{"\ufffd,\xff", "\xff", []string{"\ufffd,", ""}},
		{"\xff,\ufffd", "\ufffd", []string{"\xff,", "", "", ""}},
	} {
		sameTexts(t, fmt.Sprintf("SplitAny(%q, %q)", c.s, c.by), impl.SplitAny(c.s, c.by), c.want)
	}
}

func TestSplitAnyAtEveryByte(t *testing.T) {
	all := allBytes()
	for c := range 256 {
		want := []string{all[:c], all[c+1:]}
		sameTexts(t, fmt.Sprintf("SplitAny at byte %d", c), impl.SplitAny(all, all[c:c+1]), want)
	}
	sameTexts(t, "SplitAny by all bytes", impl.SplitAny(all, all), make([]string, 257))
	sameTexts(t, "SplitAny by no byte", impl.SplitAny(all, ""), []string{all})
}

func TestSplitAnyHasOneElementMore(t *testing.T) {
	random := newRandom()
	for range samples {
		s := randomText(random, "a,; \n\xc3\xa9\xff", 12)
		by := randomText(random, ",; \xa9\xff", 3)
		splits := 0
		for i := range len(s) {
			if strings.IndexByte(by, s[i]) >= 0 {
				splits++
			}
		}
		parts := impl.SplitAny(s, by)
		if len(parts) != splits+1 {
			t.Errorf("SplitAny(%q, %q) has %d elements, want %d", s, by, len(parts), splits+1)
		}
		for _, part := range parts {
			for i := range len(part) {
				if strings.IndexByte(by, part[i]) >= 0 {
					t.Errorf("SplitAny(%q, %q) keeps a byte to split at in %q", s, by, part)
				}
			}
		}
	}
}

func TestJoinRecoversSplitAny(t *testing.T) {
	check := func(s string, c byte) {
		by := string([]byte{c})
		if got := impl.Join(impl.SplitAny(s, by), by); got != s {
			t.Errorf("Join(SplitAny(%q, %q), %q) = %q", s, by, by, got)
		}
	}
	all := allBytes()
	for c := range 256 {
		for _, s := range []string{"", all, all + all, string([]byte{byte(c)}), string([]byte{byte(c), byte(c)})} {
			check(s, byte(c))
		}
	}
	random := newRandom()
	for range samples {
		s := randomText(random, "ab,\n\xc3\xa9\xff\x00", 12)
		check(s, "ab,\n\xc3\xa9\xff\x00"[random.IntN(8)])
		check(randomText(random, all, 300), byte(random.IntN(256)))
	}
}

func TestSplitLines(t *testing.T) {
	for s, want := range map[string][]string{
		"":                   nil,
		"\n":                 {""},
		"\n\n":               {"", ""},
		"a":                  {"a"},
		"a\n":                {"a"},
		"a\nb":               {"a", "b"},
		"a\nb\n":             {"a", "b"},
		"a\n\nb":             {"a", "", "b"},
		"\na":                {"", "a"},
		"a\n\n":              {"a", ""},
		"a\n ":               {"a", " "},
		"a\r\nb\rc\r\n":      {"a\r", "b\rc\r"},
		"a\x00\vb\u2028\n":   {"a\x00\vb\u2028"},
		"\xff\n\xc3\n\xa9":   {"\xff", "\xc3", "\xa9"},
		"\xe2\n\x82\xac\n":   {"\xe2", "\x82\xac"},
		"\xf0\x9f\n\x98\x80": {"\xf0\x9f", "\x98\x80"},
		"\u00e9\n\u20ac":     {"\u00e9", "\u20ac"},
		"\x8a\n\u010a":       {"\x8a", "\u010a"},
	} {
		sameTexts(t, fmt.Sprintf("SplitLines(%q)", s), impl.SplitLines(s), want)
	}
}

func TestSplitLinesDropsOnlyAnEmptyEnd(t *testing.T) {
	random := newRandom()
	for range samples {
		s := randomText(random, "ab\n\r\xc3\xa9\xff", 10)
		want := strings.Split(s, "\n")
		if want[len(want)-1] == "" {
			want = want[:len(want)-1]
		}
		sameTexts(t, fmt.Sprintf("SplitLines(%q)", s), impl.SplitLines(s), want)
	}
}

func TestJoin(t *testing.T) {
	for _, c := range []struct {
		l    []string
		by   string
		want string
	}{
		{nil, ",", ""},
		{[]string{}, ",", ""},
		{[]string{""}, ",", ""},
		{[]string{"a"}, ",", "a"},
		{[]string{"a", "b", "c"}, "-", "a-b-c"},
		{[]string{"a", "b", "c"}, "", "abc"},
		{[]string{"a", "b", "c"}, ", ", "a, b, c"},
		{[]string{"", ""}, ",", ","},
		{[]string{"", "a", ""}, "--", "--a--"},
		{[]string{",", ","}, ",", ",,,"},
		{[]string{"\xff", "\xc3", "\xa9"}, "", "\xff\xc3\xa9"},
		{[]string{"\xe2", "\xac"}, "\x82", "\u20ac"},
	} {
		if got := impl.Join(c.l, c.by); got != c.want {
			t.Errorf("Join(%q, %q) = %q, want %q", c.l, c.by, got, c.want)
		}
	}
}

func TestJoinKeepsItsArgument(t *testing.T) {
	backing := []string{"a", "b", "spare", "room"}
	if got := impl.Join(backing[:2], ","); got != "a,b" {
		t.Errorf("Join = %q", got)
	}
	sameTexts(t, "the list behind the argument", backing, []string{"a", "b", "spare", "room"})
}

func TestSplitResultsAreNew(t *testing.T) {
	for _, split := range []func() []string{
		func() []string { return impl.SplitAny("a,b", ",") },
		func() []string { return impl.SplitLines("a\nb\n") },
	} {
		first := split()
		first[0], first[1] = "x", "y"
		_ = append(first, "z")
		sameTexts(t, "a split after another result was changed", split(), []string{"a", "b"})
	}
}

func TestPadZeros(t *testing.T) {
	for _, c := range []struct {
		s    string
		n    int
		want string
	}{
		{"7", 3, "007"},
		{"", 3, "000"},
		{"", 1, "0"},
		{"", 0, ""},
		{"7", 1, "7"},
		{"123", 3, "123"},
		{"123", 4, "0123"},
		{"1234", 3, "1234"},
		{"-5", 4, "00-5"},
		{"+ a", 5, "00+ a"},
		{"0", 2, "00"},
		{"7", 0, "7"},
		{"7", -1, "7"},
		{"", -1, ""},
		{"7", math.MinInt64, "7"},
		{"7", math.MaxInt64, "7"},
		{"7", 1999, strings.Repeat("0", 1998) + "7"},
		{"7", 2000, strings.Repeat("0", 1999) + "7"},
		{"7", 2001, "7"},
		{"", 2000, strings.Repeat("0", 2000)},
		{"", 2001, ""},
		{strings.Repeat("1", 1999), 2000, "0" + strings.Repeat("1", 1999)},
		{strings.Repeat("1", 2000), 2000, strings.Repeat("1", 2000)},
		{strings.Repeat("1", 2000), 2001, strings.Repeat("1", 2000)},
		{strings.Repeat("1", 3000), 2500, strings.Repeat("1", 3000)},
		// The length is counted in bytes, not in runes.
		{"\u00e9", 3, "0\u00e9"},
		{"\u20ac", 3, "\u20ac"},
		{"\u20ac", 2, "\u20ac"},
		{"\xff\xfe", 1, "\xff\xfe"},
		{"\xff\xfe", 4, "00\xff\xfe"},
		{"\x00", 2, "0\x00"},
	} {
		if got := impl.PadZeros(c.s, c.n); got != c.want {
			t.Errorf("PadZeros(%q, %d) = %q, want %q", c.s, c.n, got, c.want)
		}
	}
}

package spot

import (
	"math"
	"strings"
	"testing"
)

const bound = 1 << 50

var (
	nan     = math.NaN()
	inf     = math.Inf(1)
	minus0  = math.Copysign(0, -1)
	spots   = someSpots()
	noSpots = someNoSpots()
)

// someSpots are spots: small ones, and those at the bound.
func someSpots() []complex128 {
	var l []complex128
	for _, line := range []float64{0, minus0, 1, 2, 9, 10, 1 << 32, bound - 1, bound} {
		for _, column := range []float64{0, minus0, 1, 3, 10, 1 << 31, bound/2 + 1, bound - 1, bound} {
			l = append(l, complex(line, column))
		}
	}
	return l
}

// someNoSpots are numbers with a part that may not be, on either side, beside one that may.
func someNoSpots() []complex128 {
	bad := []float64{
		-1, -bound, 0.5, 1.25, -0.5, bound + 0.25, bound + 1, 2 * bound, 1 << 53, 1 << 63, 1 << 64,
		math.SmallestNonzeroFloat64, -math.SmallestNonzeroFloat64, math.Nextafter(1, 0), math.MaxFloat64,
		nan, math.Copysign(nan, -1), inf, -inf,
	}
	var l []complex128
	for _, x := range bad {
		l = append(l, complex(x, 0), complex(0, x), complex(x, 1), complex(1, x), complex(x, x))
	}
	return l
}

// someTexts are all texts of up to n bytes of which each is one of the letters.
func someTexts(letters string, n int) []string {
	l := []string{""}
	for begin, length := 0, 0; length < n; length++ {
		end := len(l)
		for _, s := range l[begin:end] {
			for i := range len(letters) {
				l = append(l, s+letters[i:i+1])
			}
		}
		begin = end
	}
	return l
}

// slowOf is the spot at a text's end, byte by byte.
func slowOf(s string) complex128 {
	line, column := 0, 0
	for i := range len(s) {
		if s[i] == 10 {
			line, column = line+1, 0
		} else {
			column++
		}
	}
	return complex(float64(line), float64(column))
}

func TestP1_1Of(t *testing.T) {
	for s, want := range map[string]complex128{
		"":             0,
		"a":            1i,
		"ab\nc":        1 + 1i,
		"ab":           2i,
		"ab\n":         1,
		"\n":           1,
		"\n\n":         2,
		"\n\nx":        2 + 1i,
		"a\r\nb":       1 + 1i,
		"\r":           1i,
		"\x00\xff\x80": 3i,
		"é\né":         1 + 2i,
		"\u2028":       3i,
		"\x0b\x0c\x85": 3i,
	} {
		if c := Of(s); c != want {
			t.Errorf("Of(%q): %v, not %v", s, c, want)
		}
	}
	for _, s := range someTexts("a\n\xe9", 6) {
		if c := Of(s); c != slowOf(s) || !Is(c) {
			t.Errorf("Of(%q): %v", s, c)
		}
	}
	long := strings.Repeat("abc\n", 1<<16) + strings.Repeat("z", 1<<17)
	if c := Of(long); c != 1<<16+(1<<17)*1i {
		t.Errorf("Of a long text: %v", c)
	}
}

func TestP1_1Is(t *testing.T) {
	for _, c := range spots {
		if !Is(c) {
			t.Errorf("%v is a spot", c)
		}
	}
	for _, c := range noSpots {
		if Is(c) {
			t.Errorf("%v is no spot", c)
		}
	}
}

func TestP1_2Join(t *testing.T) {
	for _, x := range []struct {
		a, b, want complex128
		ok         bool
	}{
		{0, 0, 0, true},
		{1 + 1i, 3i, 1 + 4i, true},
		{1 + 4i, 2 + 0i, 3, true},
		{2 + 5i, 0, 2 + 5i, true},
		{0, 2 + 5i, 2 + 5i, true},
		{2 + 5i, 1 + 3i, 3 + 3i, true},
		{7i, 1, 1, true},
		// A nought with a sign is still the line 0, and the column 0.
		{1 + 1i, complex(minus0, 3), 1 + 4i, true},
		{complex(minus0, minus0), complex(minus0, minus0), 0, true},
		{3 + 2i, complex(1, minus0), 4, true},
		// The bound is a line and a column, what is above it is none.
		{bound, bound * 1i, bound + bound*1i, true},
		{bound - 1, 1 + bound*1i, bound + bound*1i, true},
		{bound / 2, bound / 2, bound, true},
		{bound, 1, 0, false},
		{1, bound, 0, false},
		{bound, bound, 0, false},
		{bound / 2 * 1i, bound / 2 * 1i, bound * 1i, true},
		{bound * 1i, 1i, 0, false},
		{1i, bound * 1i, 0, false},
		{5 + bound*1i, bound * 1i, 0, false},
		// The column that is left behind on an earlier line does not count.
		{bound * 1i, 1 + bound*1i, 1 + bound*1i, true},
	} {
		if c, ok := Join(x.a, x.b); c != x.want || ok != x.ok {
			t.Errorf("Join(%v, %v): %v %v, not %v %v", x.a, x.b, c, ok, x.want, x.ok)
		}
	}
	for _, bad := range noSpots {
		for _, other := range []complex128{0, 1 + 1i, bound + bound*1i, bad} {
			if c, ok := Join(bad, other); c != 0 || ok {
				t.Errorf("Join(%v, %v): %v %v", bad, other, c, ok)
			}
			if c, ok := Join(other, bad); c != 0 || ok {
				t.Errorf("Join(%v, %v): %v %v", other, bad, c, ok)
			}
		}
	}
}

func TestJoinHandsOnNoSign(t *testing.T) {
	for _, a := range spots {
		for _, b := range spots {
			if c, _ := Join(a, b); math.Signbit(real(c)) || math.Signbit(imag(c)) {
				t.Errorf("Join(%v, %v): %v", a, b, c)
			}
		}
	}
}

func TestP1_3At(t *testing.T) {
	for _, x := range []struct {
		s    string
		n    int
		want complex128
		ok   bool
	}{
		{"ab\nc", 0, 0, true},
		{"ab\nc", 2, 2i, true},
		{"ab\nc", 3, 1, true},
		{"ab\nc", 4, 1 + 1i, true},
		{"ab\nc", 5, 0, false},
		{"ab\nc", -1, 0, false},
		{"ab\n", 3, 1, true},
		{"\n", 0, 0, true},
		{"\n", 1, 1, true},
		{"abc", 3, 3i, true},
		{"", 0, 0, true},
		{"", 1, 0, false},
		{"", -1, 0, false},
		{"ab\nc", math.MaxInt, 0, false},
		{"ab\nc", math.MinInt, 0, false},
	} {
		if c, ok := At(x.s, x.n); c != x.want || ok != x.ok {
			t.Errorf("At(%q, %d): %v %v, not %v %v", x.s, x.n, c, ok, x.want, x.ok)
		}
	}
	for _, s := range someTexts("a\n", 7) {
		for n := range len(s) + 1 {
			if c, ok := At(s, n); c != slowOf(s[:n]) || !ok {
				t.Errorf("At(%q, %d): %v %v", s, n, c, ok)
			}
		}
	}
}

func TestP1_3Find(t *testing.T) {
	for _, x := range []struct {
		s    string
		c    complex128
		want int
		ok   bool
	}{
		{"ab\nc", 0, 0, true},
		{"ab\nc", 2i, 2, true},
		{"ab\nc", 3i, 0, false},
		{"ab\nc", 1, 3, true},
		{"ab\nc", 1 + 1i, 4, true},
		{"ab\nc", 1 + 2i, 0, false},
		{"ab\nc", 2, 0, false},
		{"ab\n", 1, 3, true},
		{"ab\n", 1 + 1i, 0, false},
		{"ab\n", 2, 0, false},
		{"\n", 0, 0, true},
		{"\n", 1i, 0, false},
		{"\n\n", 1, 1, true},
		{"abc", 3i, 3, true},
		{"abc", 1, 0, false},
		{"", 0, 0, true},
		{"", 1i, 0, false},
		{"", 1, 0, false},
		{"ab\nc", complex(minus0, minus0), 0, true},
		{"ab\nc", complex(1, minus0), 3, true},
		{"ab\nc", bound, 0, false},
		{"ab\nc", bound * 1i, 0, false},
	} {
		if n, ok := Find(x.s, x.c); n != x.want || ok != x.ok {
			t.Errorf("Find(%q, %v): %d %v, not %d %v", x.s, x.c, n, ok, x.want, x.ok)
		}
	}
	for _, c := range noSpots {
		for _, s := range []string{"", "abc", "\n\n", "ab\ncd\n"} {
			if n, ok := Find(s, c); n != 0 || ok {
				t.Errorf("Find(%q, %v): %d %v", s, c, n, ok)
			}
		}
	}
}

// TestP1_3FindOfAll holds Find against the words of its promise, for each spot that could be in a short text and some that can't.
func TestP1_3FindOfAll(t *testing.T) {
	for _, s := range someTexts("a\n", 6) {
		for line := range 9 {
			for column := range 9 {
				c := complex(float64(line), float64(column))
				want, wantOK := 0, false
				for n := range len(s) + 1 {
					if slowOf(s[:n]) == c {
						want, wantOK = n, true
					}
				}
				if n, ok := Find(s, c); n != want || ok != wantOK {
					t.Errorf("Find(%q, %v): %d %v, not %d %v", s, c, n, ok, want, wantOK)
				}
			}
		}
	}
}

func TestP1_4Less(t *testing.T) {
	rising := []complex128{0, 1i, 2i, bound * 1i, 1, 1 + 1i, 1 + bound*1i, 2, 10 + 9i, 10 + 10i, bound, bound + (bound-1)*1i, bound + bound*1i}
	for i, a := range rising {
		for j, b := range rising {
			if Less(a, b) != (i < j) {
				t.Errorf("Less(%v, %v): %v", a, b, i >= j)
			}
		}
	}
	noughts := []complex128{0, complex(minus0, 0), complex(0, minus0), complex(minus0, minus0)}
	for _, a := range noughts {
		for _, b := range noughts {
			if Less(a, b) {
				t.Errorf("Less(%v, %v)", a, b)
			}
		}
		if !Less(a, 1i) || !Less(a, 1) || Less(1i, a) || Less(1, a) {
			t.Errorf("%v is 0", a)
		}
	}
	for _, bad := range noSpots {
		for _, other := range []complex128{0, 1, 5 + 5i, bound + bound*1i, bad} {
			if Less(bad, other) || Less(other, bad) {
				t.Errorf("Less of %v and %v", bad, other)
			}
		}
	}
}

func TestP1_5Text(t *testing.T) {
	for c, want := range map[complex128]string{
		0:                     "0:0",
		1 + 4i:                "1:4",
		3:                     "3:0",
		10i:                   "0:10",
		100 + 2050i:           "100:2050",
		1000000 + 30000000i:   "1000000:30000000",
		bound:                 "1125899906842624:0",
		bound * 1i:            "0:1125899906842624",
		bound - 1 + bound*1i:  "1125899906842623:1125899906842624",
		bound + 1:             "",
		(bound + 1) * 1i:      "",
		-1:                    "",
		-1i:                   "",
		0.5:                   "",
		complex(0, inf):       "",
		complex(-inf, 0):      "",
		complex(1<<63, 1<<63): "",
	} {
		if s := Text(c); s != want {
			t.Errorf("Text(%v): %q, not %q", c, s, want)
		}
	}
	for _, c := range []complex128{complex(minus0, 0), complex(0, minus0), complex(minus0, minus0)} {
		if s := Text(c); s != "0:0" {
			t.Errorf("Text(%v): %q", c, s)
		}
	}
	for _, c := range noSpots {
		if s := Text(c); s != "" {
			t.Errorf("Text(%v): %q", c, s)
		}
	}
}

func TestP1_5Parse(t *testing.T) {
	for s, want := range map[string]complex128{
		"0:0":                               0,
		"1:4":                               1 + 4i,
		"10:0":                              10,
		"0:10":                              10i,
		"1125899906842624:0":                bound,
		"0:1125899906842624":                bound * 1i,
		"1125899906842624:1125899906842624": bound + bound*1i,
		"1125899906842623:9":                bound - 1 + 9i,
	} {
		if c, ok := Parse(s); c != want || !ok {
			t.Errorf("Parse(%q): %v %v, not %v", s, c, ok, want)
		}
	}
	for _, s := range []string{
		"", ":", "0", "0:", ":0", "1", "1:", ":4", "1:4:", ":1:4", "1:4:2", "1::4", "::",
		"01:4", "1:04", "00:0", "0:00", "00:00", "01:04", "000", "0:01",
		"+1:4", "1:+4", "-1:4", "1:-4", "-0:0", "0:-0", "+0:0", "0:+0", "+:0", "-:0",
		" 1:4", "1:4 ", "1 :4", "1: 4", "1:4\n", "\n1:4", "1:4\x00", "\x001:4",
		"1.0:4", "1:4.0", "1e3:4", "1:1e3", "0x1:4", "1:0x4", "1_0:4", "1:4_0", "1a:4", "1:a", "a:1", "NaN:0", "Inf:0",
		"1;4", "1,4", "1 4", "1/4", "1+4i", "(1+4i)", "١:٤", "1：4", "\xff:1", "1:\xff", "/:0", "0:/", "1:1:",
		"1125899906842625:0", "0:1125899906842625", "1125899906842625:1125899906842625", "11258999068426240:0", "0:11258999068426240",
		"9223372036854775807:0", "0:9223372036854775808", "18446744073709551616:0", "0:18446744073709551617",
		"1000000000000000000000000000000000000000:1", "1:" + strings.Repeat("9", 1000), strings.Repeat("1", 1000) + ":1",
		strings.Repeat("0", 100) + ":0", "0:" + strings.Repeat("0", 100),
	} {
		if c, ok := Parse(s); c != 0 || ok {
			t.Errorf("Parse(%q): %v %v", s, c, ok)
		}
	}
	// Powers of 2 are what would come back as a small number, were it wrapped round.
	for s := range strings.FieldsSeq("36893488147419103232 55340232221128654848 73786976294838206464 340282366920938463463374607431768211456") {
		if c, ok := Parse(s + ":0"); c != 0 || ok {
			t.Errorf("Parse(%q): %v %v", s, c, ok)
		}
		if c, ok := Parse("0:" + s); c != 0 || ok {
			t.Errorf("Parse(%q): %v %v", s, c, ok)
		}
	}
}

// TestP1_5ParseAll holds Parse against Text: of all short texts just those are parsed that are a spot's text.
func TestP1_5ParseAll(t *testing.T) {
	want := map[string]complex128{}
	for line := range 1000 {
		for column := range 1000 {
			c := complex(float64(line), float64(column))
			want[Text(c)] = c
		}
	}
	for _, s := range someTexts("01:9+- ", 5) {
		w, wok := want[s]
		if c, ok := Parse(s); c != w || ok != wok {
			t.Errorf("Parse(%q): %v %v, not %v %v", s, c, ok, w, wok)
		}
	}
}

func TestP1_6JoinOfTexts(t *testing.T) {
	l := someTexts("a\n", 5)
	for _, a := range l {
		for _, b := range l {
			if c, ok := Join(Of(a), Of(b)); c != Of(a+b) || !ok {
				t.Errorf("Join of %q and %q: %v %v", a, b, c, ok)
			}
		}
	}
}

func TestP1_6JoinInAnyBrackets(t *testing.T) {
	told := 0
	for _, a := range spots {
		for _, b := range spots {
			for _, c := range spots {
				x, ok1 := joinThree(a, b, c)
				y, ok2 := joinThreeLate(a, b, c)
				if ok1 && ok2 {
					told++
				}
				if ok1 && ok2 && x != y {
					t.Fatalf("%v, %v, %v: %v, and %v", a, b, c, x, y)
				}
			}
		}
	}
	if told < 1000 {
		t.Errorf("told both ways but %d times", told)
	}
}

func joinThree(a, b, c complex128) (complex128, bool) {
	ab, ok := Join(a, b)
	if !ok {
		return 0, false
	}
	return Join(ab, c)
}

func joinThreeLate(a, b, c complex128) (complex128, bool) {
	bc, ok := Join(b, c)
	if !ok {
		return 0, false
	}
	return Join(a, bc)
}

func TestP1_7SpotsRise(t *testing.T) {
	for _, s := range someTexts("a\n\xff", 6) {
		for n := range len(s) + 1 {
			c, ok := At(s, n)
			if !ok {
				t.Fatalf("At(%q, %d)", s, n)
			}
			if m, ok := Find(s, c); m != n || !ok {
				t.Errorf("Find(%q, %v): %d %v, not %d", s, c, m, ok, n)
			}
			if n == 0 {
				continue
			}
			b, _ := At(s, n-1)
			if !Less(b, c) || Less(c, b) || Less(c, c) {
				t.Errorf("%q: %v is not ahead of %v", s, b, c)
			}
		}
	}
}

func TestP1_8ParseOfText(t *testing.T) {
	for _, c := range spots {
		if d, ok := Parse(Text(c)); d != c || !ok {
			t.Errorf("Parse of Text(%v): %v %v", c, d, ok)
		}
	}
	for n := 1; n <= bound; n *= 2 {
		for _, m := range []int{n - 1, n, n/10*10 + 1} {
			c := complex(float64(m), float64(bound-m))
			if d, ok := Parse(Text(c)); d != c || !ok {
				t.Errorf("Parse of Text(%v): %v %v", c, d, ok)
			}
		}
	}
}

// TestP1Rules calls all with all kinds of arguments: each call ends, none panics, beside false all is zero, and the answer to a call is always the same.
func TestP1Rules(t *testing.T) {
	numbers := append(append([]complex128{}, spots...), noSpots...)
	texts := []string{"", "a", "\n", "a\nb", "\x00\xff", "1:4", strings.Repeat("ab\n", 1000), strings.Repeat("1", 5000)}
	ints := []int{math.MinInt, -bound, -1, 0, 1, 3, 1000, bound, math.MaxInt}
	for _, s := range texts {
		twice(t, func() (complex128, bool) { return Parse(s) })
		twice(t, func() (complex128, bool) { return Of(s), true })
		for _, n := range ints {
			twice(t, func() (complex128, bool) { return At(s, n) })
		}
		for _, c := range numbers {
			twice(t, func() (int, bool) { return Find(s, c) })
		}
	}
	for _, a := range numbers {
		twice(t, func() (string, bool) { return Text(a), Is(a) })
		for _, b := range numbers {
			twice(t, func() (complex128, bool) { return Join(a, b) })
			twice(t, func() (bool, bool) { return Less(a, b), Is(a) && Is(b) })
		}
	}
}

func twice[T comparable](t *testing.T, f func() (T, bool)) {
	t.Helper()
	var zero T
	x, ok := f()
	if !ok && x != zero {
		t.Fatalf("%v beside false", x)
	}
	if y, again := f(); x != y || ok != again {
		t.Fatalf("%v %v, and then %v %v", x, ok, y, again)
	}
}

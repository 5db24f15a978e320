package wire

import (
	"bytes"
	"math"
	"slices"
	"strings"
	"testing"

	"recension/api"
)

const greatest = math.MaxInt // 2^63 - 1

// someNumbers are small numbers, and those about each power of 2 and of 128.
func someNumbers() []int {
	l := []int{greatest, greatest - 1, 300, 1000000007, 0x0123456789abcdef}
	for n := range 400 {
		l = append(l, n)
	}
	for bit := range 63 {
		l = append(l, 1<<bit-1, 1<<bit, 1<<bit+1, 1<<bit|1<<(bit/2), greatest>>bit)
	}
	slices.Sort(l)
	return slices.Compact(l)
}

// someTexts are texts with bytes of all kinds, and with lengths about those at which their number's bytes get more.
func someTexts() []string {
	l := []string{"a", "ab", "", "\x00", "\x01a", "\x80", "\xff\xfe", "a\nb", "é\u2028", "\x02ab", "RP\x01"}
	for _, n := range []int{126, 127, 128, 129, 300, 16383, 16384, api.MaxBytes - 1, api.MaxBytes} {
		l = append(l, strings.Repeat("\x81z", n)[:n])
	}
	return l
}

// someLists are lists of such texts.
func someLists() [][]string {
	texts := someTexts()
	return [][]string{
		nil, {}, {""}, {"", ""}, {"a"}, {"a", ""}, {"", "a"}, {"ab"}, {"a", "b"}, {"b", "a"}, {"a", "a", "a"},
		{"\x00"}, {"\x01", "\x01a"}, texts[:11], texts, make([]string, 127), make([]string, 128), make([]string, 16384),
	}
}

// someBytes are all rows of up to n bytes of which each is one of the letters.
func someBytes(letters string, n int) [][]byte {
	l := [][]byte{{}}
	for begin, length := 0, 0; length < n; length++ {
		end := len(l)
		for _, b := range l[begin:end] {
			for i := range len(letters) {
				l = append(l, append(bytes.Clone(b), letters[i]))
			}
		}
		begin = end
	}
	return l
}

// slowNum are a number's bytes, by the words of the chapter: its digits, the lowest first, 128 added to all but the last.
func slowNum(n int) []byte {
	digits := []int{n % 128}
	for rest := n / 128; rest > 0; rest /= 128 {
		digits = append(digits, rest%128)
	}
	var b []byte
	for i, d := range digits {
		if i < len(digits)-1 {
			d += 128
		}
		b = append(b, byte(d))
	}
	return b
}

func slowText(s string) []byte {
	return append(slowNum(len(s)), s...)
}

func slowList(l []string) []byte {
	b := slowNum(len(l))
	for _, s := range l {
		b = append(b, slowText(s)...)
	}
	return b
}

// many is a byte, so often.
func many(c byte, n int) []byte {
	return bytes.Repeat([]byte{c}, n)
}

// join are rows of bytes, one behind the other.
func join(l ...[]byte) []byte {
	return bytes.Join(l, nil)
}

func num(t *testing.T, n int) []byte {
	t.Helper()
	b, e := Num(n)
	if e != api.OK {
		t.Fatalf("Num(%d): %v", n, e)
	}
	return b
}

func TestP2_1Num(t *testing.T) {
	for _, x := range []struct {
		n    int
		want []byte
	}{
		{0, []byte{0}},
		{1, []byte{1}},
		{127, []byte{127}},
		{128, []byte{128, 1}},
		{129, []byte{129, 1}},
		{255, []byte{255, 1}},
		{256, []byte{128, 2}},
		{300, []byte{172, 2}},
		{1<<14 - 1, []byte{255, 127}},
		{1 << 14, []byte{128, 128, 1}},
		{1 << 21, []byte{128, 128, 128, 1}},
		{1<<56 - 1, append(many(255, 7), 127)},
		{1 << 56, append(many(128, 8), 1)},
		{1 << 62, append(many(128, 8), 64)},
		{greatest - 1, append(append([]byte{254}, many(255, 7)...), 127)},
		{greatest, append(many(255, 8), 127)},
	} {
		if b, e := Num(x.n); !bytes.Equal(b, x.want) || e != api.OK {
			t.Errorf("Num(%d): %v %v, not %v", x.n, b, e, x.want)
		}
	}
	for _, n := range someNumbers() {
		if b, e := Num(n); !bytes.Equal(b, slowNum(n)) || e != api.OK {
			t.Errorf("Num(%d): %v %v, not %v", n, b, e, slowNum(n))
		}
	}
	for _, n := range []int{-1, -2, -127, -128, -129, -1 << 32, math.MinInt + 1, math.MinInt} {
		if b, e := Num(n); len(b) != 0 || e != api.ErrRange {
			t.Errorf("Num(%d): %v %v", n, b, e)
		}
	}
}

func TestP2_1Size(t *testing.T) {
	for n, want := range map[int]int{
		0: 1, 1: 1, 127: 1, 128: 2, 300: 2, 1<<14 - 1: 2, 1 << 14: 3, 1<<21 - 1: 3, 1 << 21: 4, 1<<28 - 1: 4, 1 << 28: 5,
		1<<35 - 1: 5, 1 << 35: 6, 1<<42 - 1: 6, 1 << 42: 7, 1<<49 - 1: 7, 1 << 49: 8, 1<<56 - 1: 8, 1 << 56: 9, greatest: 9,
		-1: 0, -128: 0, -1 << 40: 0, math.MinInt: 0,
	} {
		if size := Size(n); size != want {
			t.Errorf("Size(%d): %d, not %d", n, size, want)
		}
	}
	for _, n := range someNumbers() {
		if size := Size(n); size != len(num(t, n)) {
			t.Errorf("Size(%d): %d, but Num: %v", n, size, num(t, n))
		}
	}
}

func TestP2_2GetNum(t *testing.T) {
	for _, x := range []struct {
		b       []byte
		at      int
		n, next int
		e       api.Errno
	}{
		{[]byte{0}, 0, 0, 1, api.OK},
		{[]byte{127}, 0, 127, 1, api.OK},
		{[]byte{172, 2, 7}, 0, 300, 2, api.OK},
		{[]byte{172, 2, 7}, 1, 2, 2, api.OK},
		{[]byte{172, 2, 7}, 2, 7, 3, api.OK},
		{[]byte{128, 1}, 0, 128, 2, api.OK},
		{[]byte{0, 0, 0}, 1, 0, 2, api.OK},
		{[]byte{128, 0, 5}, 2, 5, 3, api.OK},
		{append(many(255, 8), 127), 0, greatest, 9, api.OK},
		{append(many(128, 8), 1), 0, 1 << 56, 9, api.OK},
		{append(many(255, 9), 127), 1, greatest, 10, api.OK},

		{[]byte{0}, -1, 0, 0, api.ErrArg},
		{[]byte{0}, 2, 0, 0, api.ErrArg},
		{[]byte{128}, 3, 0, 0, api.ErrArg},
		{[]byte{0}, math.MinInt, 0, 0, api.ErrArg},
		{[]byte{0}, greatest, 0, 0, api.ErrArg},
		{nil, -1, 0, 0, api.ErrArg},
		{nil, 1, 0, 0, api.ErrArg},

		{nil, 0, 0, 0, api.ErrEnd},
		{[]byte{}, 0, 0, 0, api.ErrEnd},
		{[]byte{0}, 1, 0, 0, api.ErrEnd},
		{[]byte{128}, 0, 0, 0, api.ErrEnd},
		{[]byte{5, 255}, 1, 0, 0, api.ErrEnd},
		{many(255, 8), 0, 0, 0, api.ErrEnd},
		{many(128, 8), 0, 0, 0, api.ErrEnd},
		{many(255, 9), 1, 0, 0, api.ErrEnd},

		// The ninth byte is looked at ahead of the end that is behind it.
		{many(128, 9), 0, 0, 0, api.ErrRange},
		{many(255, 9), 0, 0, 0, api.ErrRange},
		{append(many(255, 9), 0), 0, 0, 0, api.ErrRange},
		{append(many(128, 9), 0), 0, 0, 0, api.ErrRange},
		{append(many(128, 9), 1), 0, 0, 0, api.ErrRange},
		{append(many(255, 9), 1), 0, 0, 0, api.ErrRange},
		{many(255, 1000), 0, 0, 0, api.ErrRange},
		{many(128, 1000), 500, 0, 0, api.ErrRange},

		{[]byte{128, 0}, 0, 0, 0, api.ErrForm},
		{[]byte{255, 0, 1}, 0, 0, 0, api.ErrForm},
		{[]byte{172, 130, 0}, 0, 0, 0, api.ErrForm},
		{[]byte{128, 128, 0}, 1, 0, 0, api.ErrForm},
		{append(many(128, 8), 0), 0, 0, 0, api.ErrForm},
		{append(many(255, 8), 0), 0, 0, 0, api.ErrForm},
	} {
		if n, next, e := GetNum(x.b, x.at); n != x.n || next != x.next || e != x.e {
			t.Errorf("GetNum(%v, %d): %d %d %v, not %d %d %v", x.b, x.at, n, next, e, x.n, x.next, x.e)
		}
	}
}

// TestP2_2GetNumOfAll holds GetNum against Num, for all short rows of some bytes.
func TestP2_2GetNumOfAll(t *testing.T) {
	for _, b := range someBytes("\x00\x01\x7f\x80\x81\xff", 5) {
		for at := range len(b) + 1 {
			want, next, e := slowGetNum(b[at:])
			if e == api.OK {
				next += at
			}
			if n, m, f := GetNum(b, at); n != want || m != next || f != e {
				t.Fatalf("GetNum(%v, %d): %d %d %v, not %d %d %v", b, at, n, m, f, want, next, e)
			}
		}
	}
}

// slowGetNum is the number with which fewer than nine bytes begin: the last byte is sought first.
func slowGetNum(b []byte) (int, int, api.Errno) {
	last := slices.IndexFunc(b, func(c byte) bool { return c < 128 })
	if last < 0 {
		return 0, 0, api.ErrEnd
	}
	if last > 0 && b[last] == 0 {
		return 0, 0, api.ErrForm
	}
	n := 0
	for i := last; i >= 0; i-- {
		n = n*128 + int(b[i]&127)
	}
	return n, last + 1, api.OK
}

func TestP2_3Text(t *testing.T) {
	for _, x := range []struct {
		s    string
		want []byte
	}{
		{"", []byte{0}},
		{"ab", []byte{2, 97, 98}},
		{"\x00", []byte{1, 0}},
		{"é", []byte{2, 0xc3, 0xa9}},
		{"\xff\x80\n", []byte{3, 255, 128, 10}},
	} {
		if b := Text(x.s); !bytes.Equal(b, x.want) {
			t.Errorf("Text(%q): %v, not %v", x.s, b, x.want)
		}
	}
	for _, s := range someTexts() {
		if b := Text(s); !bytes.Equal(b, slowText(s)) {
			t.Errorf("Text of %d bytes: %d bytes", len(s), len(b))
		}
	}
	// A text that is too long to be got has its bytes all the same.
	long := strings.Repeat("x", api.MaxBytes+1)
	if b := Text(long); !bytes.Equal(b, slowText(long)) {
		t.Errorf("Text of %d bytes: %d bytes", len(long), len(b))
	}
}

func TestP2_3GetText(t *testing.T) {
	longest := strings.Repeat("y", api.MaxBytes)
	for _, x := range []struct {
		b    []byte
		at   int
		s    string
		next int
		e    api.Errno
	}{
		{[]byte{0}, 0, "", 1, api.OK},
		{[]byte{2, 97, 98}, 0, "ab", 3, api.OK},
		{[]byte{2, 97, 98, 99}, 0, "ab", 3, api.OK},
		{[]byte{9, 1, 0, 9}, 1, "\x00", 3, api.OK},
		{[]byte{3, 255, 128, 10}, 0, "\xff\x80\n", 4, api.OK},
		{[]byte{1, 0}, 1, "", 2, api.OK},
		{slowText(longest), 0, longest, 3 + api.MaxBytes, api.OK},

		{[]byte{0}, -1, "", 0, api.ErrArg},
		{[]byte{0}, 2, "", 0, api.ErrArg},
		{[]byte{0}, math.MinInt, "", 0, api.ErrArg},
		{[]byte{0}, greatest, "", 0, api.ErrArg},
		{nil, 1, "", 0, api.ErrArg},
		{nil, -1, "", 0, api.ErrArg},

		{nil, 0, "", 0, api.ErrEnd},
		{[]byte{0}, 1, "", 0, api.ErrEnd},
		{[]byte{128}, 0, "", 0, api.ErrEnd},
		{many(128, 9), 0, "", 0, api.ErrRange},
		{many(255, 40), 0, "", 0, api.ErrRange},
		{[]byte{128, 0}, 0, "", 0, api.ErrForm},
		{[]byte{130, 0, 97, 98}, 0, "", 0, api.ErrForm},

		// A length that is too great is refused, whether the bytes are there or not.
		{slowNum(api.MaxBytes + 1), 0, "", 0, api.ErrLong},
		{slowText(longest + "y"), 0, "", 0, api.ErrLong},
		{slowNum(1 << 32), 0, "", 0, api.ErrLong},
		{slowNum(greatest), 0, "", 0, api.ErrLong},
		{append([]byte{7}, slowNum(greatest)...), 1, "", 0, api.ErrLong},

		{[]byte{1}, 0, "", 0, api.ErrEnd},
		{[]byte{2, 97}, 0, "", 0, api.ErrEnd},
		{[]byte{3, 2, 97}, 1, "", 0, api.ErrEnd},
		{[]byte{127}, 0, "", 0, api.ErrEnd},
		{slowNum(api.MaxBytes), 0, "", 0, api.ErrEnd},
		{slowText(longest)[:2+api.MaxBytes], 0, "", 0, api.ErrEnd},
	} {
		if s, next, e := GetText(x.b, x.at); s != x.s || next != x.next || e != x.e {
			t.Errorf("GetText(%.20q.., %d): %.20q %d %v, not %.20q %d %v", x.b, x.at, s, next, e, x.s, x.next, x.e)
		}
	}
}

func TestP2_4List(t *testing.T) {
	for _, x := range []struct {
		l    []string
		want []byte
	}{
		{nil, []byte{0}},
		{[]string{}, []byte{0}},
		{[]string{""}, []byte{1, 0}},
		{[]string{"", ""}, []byte{2, 0, 0}},
		{[]string{"ab"}, []byte{1, 2, 97, 98}},
		{[]string{"ab", "", "c"}, []byte{3, 2, 97, 98, 0, 1, 99}},
		{[]string{"c", "ab", "c"}, []byte{3, 1, 99, 2, 97, 98, 1, 99}},
	} {
		if b := List(x.l); !bytes.Equal(b, x.want) {
			t.Errorf("List(%q): %v, not %v", x.l, b, x.want)
		}
	}
	for _, l := range someLists() {
		if b := List(l); !bytes.Equal(b, slowList(l)) {
			t.Errorf("List of %d texts: %d bytes", len(l), len(b))
		}
	}
	// A list that is too long to be got has its bytes all the same.
	if b := List(make([]string, api.MaxBytes+1)); !bytes.Equal(b, join(slowNum(api.MaxBytes+1), many(0, api.MaxBytes+1))) {
		t.Errorf("List of many texts: %d bytes", len(b))
	}
}

func TestP2_4GetList(t *testing.T) {
	longest := strings.Repeat("y", api.MaxBytes)
	tooLong := slowText(longest + "y")
	for _, x := range []struct {
		b    []byte
		at   int
		l    []string
		next int
		e    api.Errno
	}{
		{[]byte{0}, 0, nil, 1, api.OK},
		{[]byte{0, 1}, 0, nil, 1, api.OK},
		{[]byte{1, 0}, 0, []string{""}, 2, api.OK},
		{[]byte{3, 2, 97, 98, 0, 1, 99, 5}, 0, []string{"ab", "", "c"}, 7, api.OK},
		{[]byte{200, 2, 1, 99, 1, 98}, 1, []string{"c", "b"}, 6, api.OK},
		{append([]byte{1}, slowText(longest)...), 0, []string{longest}, 4 + api.MaxBytes, api.OK},
		{join(slowNum(api.MaxBytes), many(0, api.MaxBytes+5)), 0, make([]string, api.MaxBytes), 3 + api.MaxBytes, api.OK},

		{[]byte{0}, -1, nil, 0, api.ErrArg},
		{[]byte{0}, 2, nil, 0, api.ErrArg},
		{[]byte{0}, math.MinInt, nil, 0, api.ErrArg},
		{[]byte{0}, greatest, nil, 0, api.ErrArg},
		{nil, 1, nil, 0, api.ErrArg},
		{nil, -1, nil, 0, api.ErrArg},

		// The length's errors.
		{nil, 0, nil, 0, api.ErrEnd},
		{[]byte{0}, 1, nil, 0, api.ErrEnd},
		{[]byte{129}, 0, nil, 0, api.ErrEnd},
		{many(128, 9), 0, nil, 0, api.ErrRange},
		{[]byte{129, 0, 0}, 0, nil, 0, api.ErrForm},
		{slowNum(api.MaxBytes + 1), 0, nil, 0, api.ErrLong},
		{join(slowNum(api.MaxBytes+1), many(0, api.MaxBytes+1)), 0, nil, 0, api.ErrLong},
		{join(slowNum(api.MaxBytes+1), []byte{128, 0}), 0, nil, 0, api.ErrLong},
		{slowNum(greatest), 0, nil, 0, api.ErrLong},
		{slowNum(1 << 40), 0, nil, 0, api.ErrLong},

		// The texts' errors.
		{[]byte{1}, 0, nil, 0, api.ErrEnd},
		{[]byte{2, 0}, 0, nil, 0, api.ErrEnd},
		{[]byte{2, 0, 1}, 0, nil, 0, api.ErrEnd},
		{[]byte{2, 1, 97, 3, 97, 98}, 0, nil, 0, api.ErrEnd},
		{[]byte{1, 128}, 0, nil, 0, api.ErrEnd},
		{slowNum(api.MaxBytes), 0, nil, 0, api.ErrEnd},
		{join(slowNum(api.MaxBytes), many(0, api.MaxBytes-1)), 0, nil, 0, api.ErrEnd},
		{[]byte{1, 128, 0}, 0, nil, 0, api.ErrForm},
		{[]byte{2, 0, 129, 0, 97}, 0, nil, 0, api.ErrForm},
		{append([]byte{1}, many(255, 9)...), 0, nil, 0, api.ErrRange},
		{append([]byte{1}, tooLong...), 0, nil, 0, api.ErrLong},
		{join([]byte{2, 1, 97}, tooLong), 0, nil, 0, api.ErrLong},
		{join([]byte{1}, slowNum(greatest)), 0, nil, 0, api.ErrLong},

		// Of two texts that may not be the first one tells.
		{append([]byte{2, 128, 0}, many(255, 9)...), 0, nil, 0, api.ErrForm},
		{append(append([]byte{2}, many(255, 9)...), 128, 0), 0, nil, 0, api.ErrRange},
		{join([]byte{3}, slowNum(greatest), []byte{128, 0}), 0, nil, 0, api.ErrLong},
		{[]byte{3, 128, 0, 5}, 0, nil, 0, api.ErrForm},
	} {
		if l, next, e := GetList(x.b, x.at); !slices.Equal(l, x.l) || next != x.next || e != x.e {
			t.Errorf("GetList(%.20q.., %d): %d texts %d %v, not %d texts %d %v", x.b, x.at, len(l), next, e, len(x.l), x.next, x.e)
		}
	}
}

// around are what may stand ahead of some bytes and behind them.
var around = [][]byte{nil, {0}, {1}, {127}, {128}, {255, 255}, many(128, 12), []byte("abc"), {128, 0}}

func TestP2_5NumIsGot(t *testing.T) {
	for _, n := range someNumbers() {
		for _, ahead := range around {
			for _, behind := range around {
				b := join(ahead, num(t, n), behind)
				if got, next, e := GetNum(b, len(ahead)); got != n || next != len(b)-len(behind) || e != api.OK {
					t.Fatalf("GetNum of Num(%d), %v ahead, %v behind: %d %d %v", n, ahead, behind, got, next, e)
				}
			}
		}
	}
}

func TestP2_5TextIsGot(t *testing.T) {
	for _, s := range someTexts() {
		for _, ahead := range around {
			for _, behind := range around {
				b := join(ahead, Text(s), behind)
				if got, next, e := GetText(b, len(ahead)); got != s || next != len(b)-len(behind) || e != api.OK {
					t.Fatalf("GetText of Text(%.20q..), %v ahead, %v behind: %.20q %d %v", s, ahead, behind, got, next, e)
				}
			}
		}
	}
}

func TestP2_5ListIsGot(t *testing.T) {
	for _, l := range someLists() {
		for _, ahead := range around {
			for _, behind := range around {
				b := join(ahead, List(l), behind)
				if got, next, e := GetList(b, len(ahead)); !slices.Equal(got, l) || next != len(b)-len(behind) || e != api.OK {
					t.Fatalf("GetList of List of %d, %v ahead, %v behind: %d %d %v", len(l), ahead, behind, len(got), next, e)
				}
			}
		}
	}
}

func TestP2_6GotHasTheseBytes(t *testing.T) {
	numbers, texts, lists := 0, 0, 0
	for _, b := range someBytes("\x00\x01\x02\x03\x80\x81\xff", 6) {
		if n, next, e := GetNum(b, 0); e == api.OK {
			numbers++
			if !bytes.Equal(num(t, n), b[:next]) {
				t.Fatalf("%v: the number %d", b, n)
			}
		}
		if s, next, e := GetText(b, 0); e == api.OK {
			texts++
			if !bytes.Equal(Text(s), b[:next]) {
				t.Fatalf("%v: the text %q", b, s)
			}
		}
		if l, next, e := GetList(b, 0); e == api.OK {
			lists++
			if !bytes.Equal(List(l), b[:next]) {
				t.Fatalf("%v: the list %q", b, l)
			}
		}
	}
	if numbers < 10000 || texts < 10000 || lists < 10000 {
		t.Errorf("got but %d numbers, %d texts, %d lists", numbers, texts, lists)
	}
}

// noBeginnings tells of rows of bytes of which none may be the beginning of another one.
func noBeginnings(t *testing.T, l [][]byte) {
	t.Helper()
	slices.SortFunc(l, bytes.Compare)
	// Between a row and what it is the beginning of there stand only such ones as begin with it, too.
	for i := 1; i < len(l); i++ {
		if bytes.HasPrefix(l[i], l[i-1]) {
			t.Errorf("%.20q.. is the beginning of %.20q..", l[i-1], l[i])
		}
	}
}

func TestP2_7NoBeginnings(t *testing.T) {
	var numbers, texts, lists [][]byte
	for _, n := range someNumbers() {
		numbers = append(numbers, num(t, n))
	}
	short := someBytes("\x00\x01ab", 4)
	for _, b := range short {
		texts = append(texts, Text(string(b)))
	}
	for _, a := range short[:21] {
		lists = append(lists, List([]string{string(a)}))
		for _, b := range short[:21] {
			lists = append(lists, List([]string{string(a), string(b)}), List([]string{string(a), string(b), "c"}))
		}
	}
	lists = append(lists, List(nil))
	noBeginnings(t, numbers)
	noBeginnings(t, texts)
	noBeginnings(t, lists)
}

// TestP2_7CutOff holds the same from the other side: with some of its last bytes missing, nothing is got.
func TestP2_7CutOff(t *testing.T) {
	for _, n := range someNumbers() {
		for b := num(t, n); len(b) > 0; {
			b = b[:len(b)-1]
			if m, next, e := GetNum(b, 0); m != 0 || next != 0 || e != api.ErrEnd {
				t.Errorf("GetNum(%v): %d %d %v", b, m, next, e)
			}
		}
	}
	l := List([]string{"ab", "", "\x00", strings.Repeat("z", 200)})
	for n := range len(l) {
		if got, next, e := GetList(l[:n], 0); len(got) != 0 || next != 0 || e != api.ErrEnd {
			t.Errorf("GetList of %d bytes: %q %d %v", n, got, next, e)
		}
	}
	s := Text(strings.Repeat("z", 200))
	for n := range len(s) {
		if got, next, e := GetText(s[:n], 0); got != "" || next != 0 || e != api.ErrEnd {
			t.Errorf("GetText of %d bytes: %q %d %v", n, got, next, e)
		}
	}
}

func TestP2_8GreaterHasAsManyBytes(t *testing.T) {
	size, most := 0, 0
	for _, n := range someNumbers() {
		if len(num(t, n)) < size || Size(n) < most {
			t.Errorf("%d has fewer bytes than one below it", n)
		}
		size, most = len(num(t, n)), Size(n)
	}
	if size != 9 || most != 9 {
		t.Errorf("the greatest number has %d bytes, or %d", size, most)
	}
}

// TestP1AnyArguments calls all with all kinds of bytes, at all kinds of places: each call ends, none panics, the same call has the same answer, and beside an error all is zero.
func TestP1AnyArguments(t *testing.T) {
	rows := append(someBytes("\x00\x01\x80\xff", 4), nil, many(1, 1000), many(255, 1000), slowNum(greatest), slowNum(api.MaxBytes))
	rows = append(rows, someNumbersBytes()...)
	for _, b := range rows {
		for _, at := range []int{math.MinInt, -1 << 31, -1, 0, 1, 2, 3, len(b), len(b) + 1, 1 << 31, greatest} {
			n, next, e := GetNum(b, at)
			if e != api.OK && (n != 0 || next != 0) || e == api.OK && (next <= at || next > len(b)) {
				t.Fatalf("GetNum(%v, %d): %d %d %v", b, at, n, next, e)
			}
			s, next, e := GetText(b, at)
			if e != api.OK && (s != "" || next != 0) || e == api.OK && (next <= at || next > len(b)) {
				t.Fatalf("GetText(%v, %d): %q %d %v", b, at, s, next, e)
			}
			l, next, e := GetList(b, at)
			if e != api.OK && (len(l) != 0 || next != 0) || e == api.OK && (next <= at || next > len(b)) {
				t.Fatalf("GetList(%v, %d): %q %d %v", b, at, l, next, e)
			}
			again, nextAgain, f := GetList(b, at)
			if !slices.Equal(l, again) || next != nextAgain || e != f {
				t.Fatalf("GetList(%v, %d): %q %d %v, and then %q %d %v", b, at, l, next, e, again, nextAgain, f)
			}
		}
	}
}

func someNumbersBytes() [][]byte {
	var l [][]byte
	for _, n := range someNumbers() {
		l = append(l, slowNum(n), append(slowNum(n), "abcdefgh"...))
	}
	return l
}

// TestP1ArgumentsStay holds what is handed in, and the room behind it, against what it was.
func TestP1ArgumentsStay(t *testing.T) {
	room := []byte{2, 1, 97, 0, 9, 9, 9, 9, 9, 9, 9, 9}
	was := bytes.Clone(room)
	b := room[:4]
	GetNum(b, 0)
	GetText(b, 1)
	GetList(b, 0)
	GetNum(b, 9)
	GetText(b, 3)
	GetList(b, 3)
	if !bytes.Equal(room, was) {
		t.Errorf("%v, where %v was", room, was)
	}
	texts := []string{"a", "b", "c", "d"}
	List(texts[:2])
	if !slices.Equal(texts, []string{"a", "b", "c", "d"}) {
		t.Errorf("List left %q", texts)
	}
}

// TestP1AnswersAreNew turns what was handed in and what was answered: no other answer turns with it.
func TestP1AnswersAreNew(t *testing.T) {
	b := []byte{2, 2, 97, 98, 1, 99}
	s, _, _ := GetText(b, 1)
	l, _, _ := GetList(b, 0)
	other, _, _ := GetList(b, 0)
	clear(b)
	if s != "ab" || !slices.Equal(l, []string{"ab", "c"}) {
		t.Errorf("what was got turned: %q, %q", s, l)
	}
	clear(l)
	if !slices.Equal(other, []string{"ab", "c"}) {
		t.Errorf("one list turned with the other one: %q", other)
	}
	for _, put := range []func() []byte{
		func() []byte { b, _ := Num(300); return b },
		func() []byte { return Text("") },
		func() []byte { return Text("ab") },
		func() []byte { return List(nil) },
		func() []byte { return List([]string{"ab", ""}) },
	} {
		one, two := put(), put()
		want := bytes.Clone(two)
		clear(append(one, 1, 2, 3))
		clear(one)
		if !bytes.Equal(two, want) || !bytes.Equal(put(), want) {
			t.Errorf("%v turned to %v", want, two)
		}
	}
}

// TestP1NoRoomForPromises: a list that but promises to be long is refused without room being made for it.
func TestP1NoRoomForPromises(t *testing.T) {
	b := slowNum(api.MaxBytes)
	if n := testing.AllocsPerRun(10, func() { GetList(b, 0) }); n != 0 {
		t.Errorf("%v times room was made", n)
	}
}

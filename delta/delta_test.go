package delta

import (
	"bytes"
	"math"
	"slices"
	"strings"
	"testing"
	"unsafe"

	"recension/api"
)

// many are n bytes c.
func many(c string, n int) string { return strings.Repeat(c, n) }

// row writes texts one behind the other.
func row(pieces ...string) string { return strings.Join(pieces, "") }

// num are a number's bytes, as chapter 2 tells them.
func num(n int) string {
	if n < 128 {
		return string([]byte{byte(n)})
	}
	return string([]byte{byte(n%128 + 128)}) + num(n/128)
}

// own is a piece of the target's own bytes, and from one that stands in the base.
func own(s string) string      { return num(2*len(s)) + s }
func from(at, n int) string    { return num(2*n+1) + num(at) }
func sizes(b, t string) string { return num(len(b)) + num(len(t)) }

// someText is a text of n of the letters, in an order that the seed tells.
func someText(letters string, n int, seed uint32) string {
	b := make([]byte, n)
	for i := range b {
		seed = seed*1664525 + 1013904223
		b[i] = letters[int(seed>>16)%len(letters)]
	}
	return string(b)
}

// allBytes has each byte once.
func allBytes() string {
	b := make([]byte, 256)
	for i := range b {
		b[i] = byte(i)
	}
	return string(b)
}

// allTexts are all texts of n bytes of which each is one of the letters.
func allTexts(letters string, n int) []string {
	l := []string{""}
	for range n {
		var longer []string
		for _, s := range l {
			for i := range len(letters) {
				longer = append(longer, s+letters[i:i+1])
			}
		}
		l = longer
	}
	return l
}

// patched has pieces of a base, of lengths about MinMatch and longer ones, with other bytes between them.
func patched(base string, seed uint32) string {
	var s strings.Builder
	for range 8 {
		seed = seed*1664525 + 1013904223
		at := int(seed>>16) % (len(base) + 1)
		n := int(seed>>8) % 24
		s.WriteString(base[at:min(at+n, len(base))])
		s.WriteString(someText("ab\x00\xff", int(seed>>24)%4, seed))
	}
	return s.String()
}

// somePairs are bases and targets with little and with much in common, and of lengths about the limits of package api.
func somePairs() [][2]string {
	var l [][2]string
	for seed := range uint32(60) {
		n := int(seed)
		few, more := someText("ab", n, seed), someText("abcd", 3*n, seed)
		l = append(l, [2]string{few, someText("ab", 50, seed+100)}, [2]string{more, patched(more, seed)}, [2]string{few, patched(few, seed)},
			[2]string{patched(more, seed), more}, [2]string{few, few + few}, [2]string{more, more[n:] + more[:n]}, [2]string{more, ""}, [2]string{"", more})
	}
	all := allBytes()
	texts := []string{
		"", "a", "the quick brown fox", "a quick brown fox, the quick", "\x00", many("\x00", 9), "0123456", "01234567", "012345678", "x01234567", "01234567x",
		all, all[100:] + all[:100], many("a", 300), many("ab", 300), many("ba", 63), many("a", 63), many("a", 64), many("a", 127), many("a", 128),
	}
	for _, base := range texts {
		for _, target := range texts {
			l = append(l, [2]string{base, target})
		}
	}
	return append(l, longPairs()...)
}

// longPairs are such as are at the limit of package api, or shortly below it.
func longPairs() [][2]string {
	most := someText(allBytes(), api.MaxDelta, 7)
	few := someText("ab", api.MaxDelta, 8)
	return [][2]string{
		{"", most}, {most, ""}, {most, most}, {few, few[:4000] + "c" + few[4001:]}, {most, most[2000:] + most[:2000]},
		{most, most[1:] + "x"}, {most[1:], most}, {many("a", 4096), many("a", 4096)}, {many("a", 4095), many("a", 4096)}, {"aaaaaaaa", many("a", 4096)},
		{most, most[4088:]}, {most, most[4089:]}, {most, someText(allBytes(), api.MaxDelta, 9)},
	}
}

// slowMatch is the longest beginning of rest that stands in the base, and where it does first.
func slowMatch(base, rest string) (at, n int) {
	for n < len(rest) && strings.Contains(base, rest[:n+1]) {
		n++
	}
	return strings.Index(base, rest[:n]), n
}

// slowMake is the document's delta, place by place.
func slowMake(base, target string) string {
	d, mine := sizes(base, target), ""
	end := func() {
		if mine != "" {
			d += own(mine)
		}
		mine = ""
	}
	for rest := target; rest != ""; {
		at, n := slowMatch(base, rest)
		if n >= 8 {
			end()
			d += from(at, n)
			rest = rest[n:]
		} else {
			mine += rest[:1]
			rest = rest[1:]
		}
	}
	end()
	return d
}

// slowGet is the number at the beginning of d, and what is behind it, with chapter 2's errors.
func slowGet(d string) (n int, rest string, e api.Errno) {
	for i := 0; ; i++ {
		if i == len(d) {
			return 0, "", api.ErrEnd
		}
		if i == 8 && d[i] >= 128 {
			return 0, "", api.ErrRange
		}
		n |= int(d[i]&127) << (7 * i)
		if d[i] < 128 {
			if d[i] == 0 && i > 0 {
				return 0, "", api.ErrForm
			}
			return n, d[i+1:], api.OK
		}
	}
}

// slowApply is what P5.2 tells.
func slowApply(base, d string) (string, api.Errno) {
	if len(base) > 4096 {
		return "", api.ErrLong
	}
	size, d, e := slowGet(d)
	if e != api.OK {
		return "", e
	}
	if size != len(base) {
		return "", api.ErrArg
	}
	lacks, d, e := slowGet(d)
	if e != api.OK {
		return "", e
	}
	if lacks > 4096 {
		return "", api.ErrLong
	}
	return slowPieces(base, d, lacks)
}

// slowPieces is the target of which so many bytes are lacking.
func slowPieces(base, d string, lacks int) (string, api.Errno) {
	if lacks == 0 && d != "" {
		return "", api.ErrForm
	}
	if lacks == 0 {
		return "", api.OK
	}
	m, d, e := slowGet(d)
	if e != api.OK {
		return "", e
	}
	if m == 0 || m == 1 || m/2 > lacks {
		return "", api.ErrForm
	}
	piece := ""
	if m%2 == 0 {
		if m/2 > len(d) {
			return "", api.ErrEnd
		}
		piece, d = d[:m/2], d[m/2:]
	} else {
		var at int
		if at, d, e = slowGet(d); e != api.OK {
			return "", e
		}
		if at > len(base) || (m-1)/2 > len(base)-at {
			return "", api.ErrRange
		}
		piece = base[at : at+(m-1)/2]
	}
	behind, e := slowPieces(base, d, lacks-len(piece))
	if e != api.OK {
		return "", e
	}
	return piece + behind, api.OK
}

// made is what Make answers without an error.
func made(t *testing.T, base, target string) string {
	t.Helper()
	d, e := Make([]byte(base), []byte(target))
	if e != api.OK {
		t.Fatalf("Make(%.40q, %.40q): %v", base, target, e)
	}
	return string(d)
}

// applied is what Apply answers, whatever the error.
func applied(t *testing.T, base, d string) (string, api.Errno) {
	t.Helper()
	s, e := Apply([]byte(base), []byte(d))
	if e != api.OK && len(s) != 0 {
		t.Fatalf("Apply(%.40q, %.40q): %.40q beside %v", base, d, s, e)
	}
	return string(s), e
}

// holdAgainst holds Apply against the slow one.
func holdAgainst(t *testing.T, base, d string) {
	t.Helper()
	s, e := applied(t, base, d)
	if slow, f := slowApply(base, d); s != slow || e != f {
		t.Fatalf("Apply(%.40q, %.40q): %.40q %v, not %.40q %v", base, d, s, e, slow, f)
	}
}

func TestP5_1Make(t *testing.T) {
	for _, x := range []struct{ base, target, want string }{
		{"0123456789", "x0123456789", "\x0a\x0b\x02x\x15\x00"},
		{"", "", "\x00\x00"},
		{"x", "", "\x01\x00"},
		{"", "x", "\x00\x01\x02x"},
		{"x", "x", "\x01\x01\x02x"},
		{"", many("a", 64), "\x00\x40\x80\x01" + many("a", 64)},

		// MinMatch bytes are worth a piece of the base, one fewer are not.
		{"01234567", "01234567", "\x08\x08\x11\x00"},
		{"0123456", "0123456", "\x07\x07\x0e0123456"},
		{"xx01234567yy", "01234567", "\x0c\x08\x11\x02"},
		{"xx01234567yy", "a01234567b", "\x0c\x0a\x02a\x11\x02\x02b"},
		{"xx01234567yy", "a0123456_b", "\x0c\x0a\x14a0123456_b"},
		{"01234567", "1234567", "\x08\x07\x0e1234567"},
		{"01234567", "0123456", "\x08\x07\x0e0123456"},

		// Of places that are equally good the first, else the best, wherever it is.
		{"abcdefgh_abcdefgh", "abcdefgh", "\x11\x08\x11\x00"},
		{"_abcdefgh_abcdefgh", "abcdefgh", "\x12\x08\x11\x01"},
		{"abcdefgh_abcdefghi", "abcdefghi", "\x12\x09\x13\x09"},
		{"abcdefghi_abcdefgh", "abcdefghi", "\x12\x09\x13\x00"},
		{"abcdefgh_abcdefghi_abcdefghi", "abcdefghij", "\x1c\x0a\x13\x09\x02j"},
		{many("a", 20), many("a", 10), "\x14\x0a\x15\x00"},
		{"baaaaaaaaaa", many("a", 9), "\x0b\x09\x13\x01"},

		// What is good here is taken, though what is one place behind might have been better.
		{"abcdefgh_bcdefghijklmno", "abcdefghijklmno", "\x17\x0f\x11\x00\x0eijklmno"},
		{"abcdefgh_bcdefghijklmnop", "abcdefghijklmnop", "\x18\x10\x11\x00\x11\x10"},
		{"abcdefg_bcdefghi", "abcdefghi", "\x10\x09\x02a\x11\x08"},

		// Pieces of the base stand one behind the other, and may do so with the same bytes.
		{"abcdefgh", "abcdefghabcdefgh", "\x08\x10\x11\x00\x11\x00"},
		{"aaaaaaaa", many("a", 20), "\x08\x14\x11\x00\x11\x00\x08aaaa"},
		{"abcdefgh_ABCDEFGH", "ABCDEFGHabcdefgh", "\x11\x10\x11\x09\x11\x00"},
		{"abcdefghijklmnop", "ijklmnop\x00abcdefgh", "\x10\x11\x11\x08\x02\x00\x11\x00"},

		{allBytes(), allBytes()[200:] + "\xff\x00", "\x80\x02\x3a\x71\xc8\x01\x04\xff\x00"},
	} {
		if d := made(t, x.base, x.target); d != x.want {
			t.Errorf("Make(%.40q, %.40q): %q, not %q", x.base, x.target, d, x.want)
		}
	}
}

func TestP5_1Limits(t *testing.T) {
	short, most, above := many("ab", 10), many("a", api.MaxDelta), many("a", api.MaxDelta+1)
	for _, x := range []struct {
		base, target, want string
		e                  api.Errno
	}{
		{most, most, row(num(4096), num(4096), from(0, 4096)), api.OK},
		{most, short, row(num(4096), num(20), own(short)), api.OK},
		{"", most, row(num(0), num(4096), own(most)), api.OK},
		{most, "", row(num(4096), num(0)), api.OK},
		{above, short, "", api.ErrLong},
		{short, above, "", api.ErrLong},
		{above, above, "", api.ErrLong},
		{above, "", "", api.ErrLong},
		{"", above, "", api.ErrLong},
		{many("a", 1<<20), "", "", api.ErrLong},
	} {
		d, e := Make([]byte(x.base), []byte(x.target))
		if string(d) != x.want || e != x.e {
			t.Errorf("Make of %d and %d bytes: %.40q %v, not %.40q %v", len(x.base), len(x.target), d, e, x.want, x.e)
		}
	}
}

// TestP5_1TheDocumentsDelta holds Make against the slow one.
func TestP5_1TheDocumentsDelta(t *testing.T) {
	hold := func(base, target string) {
		if d, want := made(t, base, target), slowMake(base, target); d != want {
			t.Fatalf("Make(%.60q, %.60q): %.60q, not %.60q", base, target, d, want)
		}
	}
	for _, p := range somePairs() {
		hold(p[0], p[1])
	}
	targets := allTexts("ab", 9)
	for _, base := range slices.Concat(allTexts("ab", 8), allTexts("ab", 9)) {
		for i := len(base); i < len(targets); i += 5 {
			hold(base, targets[i])
		}
	}
	for _, base := range []string{"abababababab", "aaaaaaaaabaaaaaaaaaa", "abbabbabbabbbabbabbabb", "aabaabaaabaabaab_aabaabaab"} {
		for _, target := range allTexts("ab", 12) {
			hold(base, target)
		}
	}
}

func TestP5_2Apply(t *testing.T) {
	most, above := many("a", api.MaxDelta), many("a", api.MaxDelta+1)
	for _, x := range []struct {
		base, d, want string
		e             api.Errno
	}{
		{"ab", "\x02\x01\x02x", "x", api.OK},
		{"ab", "\x03\x00", "", api.ErrArg},
		{"", "\x00\x00", "", api.OK},
		{"ab", "\x02\x00", "", api.OK},
		{"0123456789", "\x0a\x0b\x02x\x15\x00", "x0123456789", api.OK},

		// What Make would not have made.
		{"ab", "\x02\x02\x02x\x02y", "xy", api.OK},
		{"ab", "\x02\x01\x03\x01", "b", api.OK},
		{"ab", "\x02\x04\x03\x01\x03\x00\x05\x00", "baab", api.OK},
		{"abcdefghij", "\x0a\x0a\x02_\x13\x01", "_bcdefghij", api.OK},
		{"abcdefgh", "\x08\x08\x10abcdefgh", "abcdefgh", api.OK},
		{"abcdefgh", "\x08\x08\x09\x00\x09\x04", "abcdefgh", api.OK},
		{"abababab", "\x08\x02\x05\x06", "ab", api.OK},
		{most, row(num(4096), num(4096), from(4095, 1), from(1, 4095)), most, api.OK},
		{"a", row(num(1), num(4096), many(from(0, 1), 4096)), most, api.OK},
		{"", row(num(0), num(4096), own(most)), most, api.OK},

		// The base.
		{above, row(num(4097), num(1), own("x")), "", api.ErrLong},
		{above, "", "", api.ErrLong},
		{above, "\x80\x00", "", api.ErrLong},

		// Its length.
		{"", "", "", api.ErrEnd},
		{"ab", "", "", api.ErrEnd},
		{"ab", "\x82", "", api.ErrEnd},
		{"ab", "\x82\x00\x00", "", api.ErrForm},
		{"ab", many("\xff", 9), "", api.ErrRange},
		{"ab", many("\xff", 8) + "\x7f", "", api.ErrArg},
		{"ab", "\x01\x00", "", api.ErrArg},
		{"ab", "\x03", "", api.ErrArg},
		{"ab", "\x00\x80\x00", "", api.ErrArg},
		{"", "\x01\x00", "", api.ErrArg},
		{most, num(4097) + "\x00", "", api.ErrArg},

		// The target's.
		{"ab", "\x02", "", api.ErrEnd},
		{"ab", "\x02\x80", "", api.ErrEnd},
		{"ab", "\x02\x80\x00", "", api.ErrForm},
		{"ab", "\x02" + many("\x80", 9), "", api.ErrRange},
		{"ab", "\x02" + num(4097), "", api.ErrLong},
		{"ab", row("\x02", num(4097), own(above)), "", api.ErrLong},
		{"ab", "\x02" + num(math.MaxInt), "", api.ErrLong},
		{"ab", row("\x02", num(4096), own(most)), most, api.OK},
		{"ab", "\x02" + num(4096), "", api.ErrEnd},

		// A piece's number.
		{"ab", "\x02\x01", "", api.ErrEnd},
		{"ab", "\x02\x01\x82", "", api.ErrEnd},
		{"ab", "\x02\x01\x82\x00x", "", api.ErrForm},
		{"ab", "\x02\x01" + many("\x82", 9), "", api.ErrRange},
		{"ab", "\x02\x01\x00", "", api.ErrForm},
		{"ab", "\x02\x01\x01\x00", "", api.ErrForm},
		{"ab", "\x02\x01\x01\x09", "", api.ErrForm},
		{"ab", "\x02\x01\x00\x02x", "", api.ErrForm},
		{"ab", "\x02\x01\x04xy", "", api.ErrForm},
		{"ab", "\x02\x01\x04", "", api.ErrForm},
		{"ab", "\x02\x01\x05\x00", "", api.ErrForm},
		{"ab", "\x02\x01\x05", "", api.ErrForm},
		{"ab", "\x02\x03\x04xy\x04zz", "", api.ErrForm},
		{"ab", "\x02\x01" + num(math.MaxInt), "", api.ErrForm},
		{"ab", "\x02\x01" + num(math.MaxInt-1), "", api.ErrForm},

		// Own bytes.
		{"ab", "\x02\x01\x02", "", api.ErrEnd},
		{"ab", "\x02\x03\x06xy", "", api.ErrEnd},
		{"ab", "\x02\x03\x02x\x04y", "", api.ErrEnd},

		// A place.
		{"ab", "\x02\x01\x03", "", api.ErrEnd},
		{"ab", "\x02\x01\x03\x80", "", api.ErrEnd},
		{"ab", "\x02\x01\x03\x80\x00", "", api.ErrForm},
		{"ab", "\x02\x01\x03" + many("\xff", 9), "", api.ErrRange},
		{"ab", "\x02\x01\x03\x02", "", api.ErrRange},
		{"ab", "\x02\x02\x05\x01", "", api.ErrRange},
		{"ab", "\x02\x03\x07\x00", "", api.ErrRange},
		{"ab", "\x02\x02\x05\x00", "ab", api.OK},
		{"", "\x00\x01\x03\x00", "", api.ErrRange},
		{"ab", "\x02\x01\x03" + num(math.MaxInt), "", api.ErrRange},
		{"ab", "\x02\x02\x05" + num(math.MaxInt-1), "", api.ErrRange},
		{"ab", "\x02\x01\x03\x02behind", "", api.ErrRange},

		// What is behind.
		{"ab", "\x02\x00\x00", "", api.ErrForm},
		{"ab", "\x02\x00\x02x", "", api.ErrForm},
		{"ab", "\x02\x01\x02xy", "", api.ErrForm},
		{"ab", "\x02\x01\x03\x00\x00", "", api.ErrForm},
		{"ab", "\x02\x01\x03\x00\x80", "", api.ErrForm},

		// Of two pieces that may not be the first one tells.
		{"ab", "\x02\x03\x03\x02\x00", "", api.ErrRange},
		{"ab", "\x02\x03\x00\x03\x02", "", api.ErrForm},
	} {
		if s, e := applied(t, x.base, x.d); s != x.want || e != x.e {
			t.Errorf("Apply(%.40q, %.40q): %.40q %v, not %.40q %v", x.base, x.d, s, e, x.want, x.e)
		}
	}
}

// TestP5_2EachSmallDelta holds Apply against the slow one, for all short rows of some bytes.
func TestP5_2EachSmallDelta(t *testing.T) {
	for n := range 7 {
		for _, d := range allTexts("\x00\x01\x02\x03\x05\x80a", n) {
			holdAgainst(t, "ab", "\x02"+d)
			if n < 6 {
				holdAgainst(t, "", d)
				holdAgainst(t, "x", d)
			}
		}
	}
}

// TestP5_2TurnedDeltas holds Apply against the slow one, for deltas as they are made of which a byte is turned, is missing, or comes twice.
func TestP5_2TurnedDeltas(t *testing.T) {
	for seed := range uint32(25) {
		base := someText("abc", 40, seed)
		d := made(t, base, patched(base, seed))
		for i := range d {
			for _, c := range "\x00\x01\x02\x03\x11\x12\x13\x40\x7f" {
				holdAgainst(t, base, d[:i]+string(c)+d[i+1:])
			}
			holdAgainst(t, base, d[:i]+"\xff"+d[i+1:])
			holdAgainst(t, base, d[:i]+d[i+1:])
			holdAgainst(t, base, d[:i+1]+d[i:])
			holdAgainst(t, base[:i%40], d)
		}
	}
}

func TestP5_3ApplyOfMakeIsTheTarget(t *testing.T) {
	for _, p := range somePairs() {
		if s, e := applied(t, p[0], made(t, p[0], p[1])); s != p[1] || e != api.OK {
			t.Fatalf("Apply of Make(%.60q, %.60q): %.60q %v", p[0], p[1], s, e)
		}
	}
}

func TestP5_4SixBytesMore(t *testing.T) {
	for _, p := range somePairs() {
		if d := made(t, p[0], p[1]); len(d) > len(p[1])+6 {
			t.Errorf("Make(%.60q, %.60q) has %d bytes, the target %d", p[0], p[1], len(d), len(p[1]))
		}
	}
	// The six are had where base, target and the one piece are long.
	if d := made(t, many("a", 128), many("b", 128)); len(d) != 128+6 {
		t.Errorf("%d bytes", len(d))
	}
}

func TestP5_4WhatStandsInTheBase(t *testing.T) {
	for _, p := range somePairs() {
		base := p[0]
		for at := 0; at+8 <= len(base); at += 1 + len(base)/30 {
			for _, n := range []int{8, 9, 63, 64, 127, 128, len(base) - at} {
				target := base[at:min(at+n, len(base))]
				if d := made(t, base, target); len(target) >= 8 && len(d) > 8 {
					t.Fatalf("Make of %d bytes that stand at %d of %.60q: %d bytes", n, at, base, len(d))
				}
			}
		}
	}
}

// TestP5_5NoBeginnings holds all short deltas of a base against one another.
func TestP5_5NoBeginnings(t *testing.T) {
	for _, base := range []string{"", "a", "ab"} {
		var l []string
		for n := range 6 {
			for _, d := range allTexts("\x00\x01\x02\x03\x04\x05\x80", n) {
				if _, e := applied(t, base, num(len(base))+d); e == api.OK {
					l = append(l, d)
				}
			}
		}
		for _, s := range allTexts("ab", 9) {
			l = append(l, made(t, base, s)[1:])
		}
		slices.Sort(l)
		l = slices.Compact(l)
		if len(l) < 512+20 {
			t.Errorf("of %q but %d deltas", base, len(l))
		}
		// Between a delta and what it is the beginning of there stand only such ones as begin with it, too.
		for i := 1; i < len(l); i++ {
			if strings.HasPrefix(l[i], l[i-1]) {
				t.Errorf("of %q the delta %q is the beginning of %q", base, l[i-1], l[i])
			}
		}
	}
}

// TestP5_5CutOff holds the same from the other side: with its last bytes missing, or with others behind them, a delta tells nothing.
func TestP5_5CutOff(t *testing.T) {
	for seed := range uint32(40) {
		base := someText("abc", int(seed)*2, seed)
		d := made(t, base, patched(base, seed))
		for n := range len(d) {
			if s, e := applied(t, base, d[:n]); e == api.OK {
				t.Fatalf("of %q the beginning %q of the delta %q: %q", base, d[:n], d, s)
			}
		}
		for _, behind := range []string{"\x00", "\x01", "\x02x", "\x03\x00", "\x80", "\xff", d} {
			if s, e := applied(t, base, d+behind); e != api.ErrForm {
				t.Fatalf("of %q the delta %q with %q behind it: %q %v", base, d, behind, s, e)
			}
		}
	}
}

// someRows are rows of bytes of all kinds, some of them far too long.
func someRows() [][]byte {
	rows := [][]byte{nil, {}, {0}, {0, 0}, {1, 1, 3, 0}, {255}, []byte(many("\xff", 9)), []byte(num(math.MaxInt)), []byte(allBytes())}
	for _, n := range []int{4095, 4096, 4097, 1 << 20} {
		for _, c := range []string{"\x00", "\x01", "\x02", "\x80", "\xff"} {
			rows = append(rows, []byte(many(c, n)))
		}
	}
	return append(rows, []byte(row(num(4096), num(4096), many("\x03\x00", 4096))), []byte(row(num(4096), num(4096), many("\x02x", 4096), many("\x00", 1<<20))))
}

func TestP1NoCallPanics(t *testing.T) {
	rows := someRows()
	for _, a := range rows {
		for _, b := range rows {
			if len(a) <= 4096 || len(b) <= 4096 {
				holdAgainst(t, string(a), string(b))
			}
			if d, e := Make(a, b); (e == api.OK) != (len(a) <= 4096 && len(b) <= 4096) || e != api.OK && len(d) != 0 {
				t.Fatalf("Make of %d and %d bytes: %.40q %v", len(a), len(b), d, e)
			}
		}
	}
}

// TestP1ArgumentsAreNotTurned hands on rows with room behind them.
func TestP1ArgumentsAreNotTurned(t *testing.T) {
	for _, p := range somePairs() {
		base, target := []byte(p[0]+"room"), []byte(p[1]+"room")
		Make(base[:len(p[0])], target[:len(p[1])])
		d := []byte(made(t, p[0], p[1]) + "room")
		wasDelta := bytes.Clone(d)
		Apply(base[:len(p[0])], d[:len(d)-4])
		Apply(base[:len(p[0])], d[:len(d)-5])
		Apply(base[:len(p[0])], d[:len(d)-3])
		if string(base) != p[0]+"room" || string(target) != p[1]+"room" || !bytes.Equal(d, wasDelta) {
			t.Fatalf("of %.40q and %.40q something was turned", p[0], p[1])
		}
	}
}

// TestP1AnswersAreNew: answers stand elsewhere than what was handed in, and than one another, with all the room behind them.
func TestP1AnswersAreNew(t *testing.T) {
	for _, p := range somePairs() {
		base, target := []byte(p[0]), []byte(p[1])
		d, _ := Make(base, target)
		again, _ := Make(base, target)
		s, _ := Apply(base, d)
		sAgain, _ := Apply(base, d)
		all := [][]byte{base, target, d, again, s, sAgain}
		for i, a := range all {
			for _, b := range all[:i] {
				if shares(a, b) {
					t.Fatalf("of %.40q and %.40q the answer %.40q shares its memory", p[0], p[1], a)
				}
			}
		}
	}
}

// shares tells whether two rows, with the room behind them, stand in the same memory.
func shares(a, b []byte) bool {
	if cap(a) == 0 || cap(b) == 0 {
		return false
	}
	beginA, beginB := uintptr(unsafe.Pointer(unsafe.SliceData(a))), uintptr(unsafe.Pointer(unsafe.SliceData(b)))
	return beginA < beginB+uintptr(cap(b)) && beginB < beginA+uintptr(cap(a))
}

// TestP1SameAnswers asks again, with other calls in between, and with nil for empty.
func TestP1SameAnswers(t *testing.T) {
	for _, p := range somePairs() {
		d := made(t, p[0], p[1])
		made(t, p[1], p[0])
		applied(t, p[1], d)
		if made(t, p[0], p[1]) != d {
			t.Fatalf("Make(%.40q, %.40q) has two answers", p[0], p[1])
		}
		first, e := applied(t, p[0], d)
		applied(t, p[0], d+"x")
		if again, f := applied(t, p[0], d); first != again || e != f {
			t.Fatalf("Apply(%.40q, %.40q) has two answers", p[0], d)
		}
	}
	for _, x := range [][]byte{nil, {}, {0, 0}, {0, 1, 2, 7}, []byte("abcdefghij"), make([]byte, 4097)} {
		a, eA := Make(nil, x)
		b, eB := Make([]byte{}, x)
		c, eC := Make(x, nil)
		d, eD := Make(x, []byte{})
		if !bytes.Equal(a, b) || eA != eB || !bytes.Equal(c, d) || eC != eD {
			t.Errorf("Make, beside %.20q: nil and empty do not mean the same", x)
		}
		a, eA = Apply(nil, x)
		b, eB = Apply([]byte{}, x)
		_, eC = Apply(x, nil)
		_, eD = Apply(x, []byte{})
		if !bytes.Equal(a, b) || eA != eB || eC != eD {
			t.Errorf("Apply, beside %.20q: nil and empty do not mean the same", x)
		}
	}
}

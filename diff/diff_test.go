package diff

import (
	"math"
	"math/bits"
	"slices"
	"strings"
	"testing"
	"unsafe"

	"recension/api"
)

func keep(n int) api.Edit         { return api.Edit{Kind: api.Keep, N: n} }
func cut(n int) api.Edit          { return api.Edit{Kind: api.Cut, N: n} }
func put(s string) api.Edit       { return api.Edit{Kind: api.Put, Text: s} }
func many(s string, n int) string { return strings.Repeat(s, n) }

// allTexts are all texts of up to n bytes of which each is one of the letters.
func allTexts(letters string, n int) []string {
	l := []string{""}
	for begin, length := 0, 0; length < n; length++ {
		end := len(l)
		for _, s := range l[begin:end] {
			for i := range len(letters) {
				l = append(l, s+letters[i:i+1])
			}
		}
		begin = end
	}
	return l
}

// someText is a text of n of the letters, in an order that the seed tells.
func someText(letters string, n int, seed uint32) string {
	b := make([]byte, n)
	for i := range b {
		seed = seed*1664525 + 1013904223
		b[i] = letters[int(seed>>16)%len(letters)]
	}
	return string(b)
}

// someTexts are texts with bytes of all kinds, and with lengths about the limit of package api.
func someTexts() []string {
	all := make([]byte, 256)
	for i := range all {
		all[i] = byte(i)
	}
	return []string{
		"", "a", "ab", "ba", "abc", "a\nb\nc\n", "\n\n", "\x00", "\x00\x00\x01", "\xff\xfe", "é", "è\u2028", "\xc3\xc3\xa9",
		"the quick brown fox", "the slow brown ox", string(all), string(all[128:]) + string(all[:128]),
		many("a", 500), many("ab", 500), many("ba", 500), many("z", api.MaxText), many("z", api.MaxText-1) + "y",
		someText("ab", 999, 1), someText("ab", 1000, 2), someText("abcdefgh", 1000, 3), someText(string(all), 1000, 4), someText(string(all), 700, 5),
	}
}

// somePairs are all pairs of small texts, and of some others.
func somePairs() [][2]string {
	var l [][2]string
	for _, texts := range [][]string{allTexts("ab", 5), allTexts("abc", 3), someTexts()} {
		for _, a := range texts {
			for _, b := range texts {
				l = append(l, [2]string{a, b})
			}
		}
	}
	for seed := range uint32(40) {
		a := someText("abcd", int(seed)*3, seed)
		l = append(l, [2]string{a, someText("abcd", 60, seed+100)}, [2]string{a, a[len(a)/3:] + "x" + a[:len(a)/2]})
	}
	return l
}

// someEdits are edits of all kinds, and those that may not be, with numbers and texts of all sizes.
func someEdits() []api.Edit {
	var l []api.Edit
	for _, kind := range []int{math.MinInt, -1, 0, api.Keep, api.Cut, api.Put, 4, 5, 255, 1 << 32, 1<<32 + 1, math.MaxInt} {
		for _, n := range []int{math.MinInt, math.MinInt + 1, -1000, -1, 0, 1, 2, 3, 999, 1000, 1001, 1 << 31, 1<<32 + 1, math.MaxInt - 1, math.MaxInt} {
			for _, s := range []string{"", "x", "ab", many("y", 999), many("y", 1000), many("y", 1001), many("y", 100000)} {
				l = append(l, api.Edit{Kind: kind, N: n, Text: s})
			}
		}
	}
	return l
}

// isRight tells by the words of the chapter whether an edit may be.
func isRight(d api.Edit) bool {
	return (d.Kind == api.Keep || d.Kind == api.Cut) && d.N >= 1 && len(d.Text) == 0 ||
		d.Kind == api.Put && d.N == 0 && len(d.Text) >= 1
}

// slowCost is how many bytes a script from a to b costs at least, if they are small: all that is in no longest common row of theirs.
func slowCost(a, b string) int {
	best := 0
	for set := range 1 << len(a) {
		if n := bits.OnesCount(uint(set)); n > best && stands(a, set, b) {
			best = n
		}
	}
	return len(a) + len(b) - 2*best
}

// stands tells whether the bytes of a that are in the set stand in b, in their order.
func stands(a string, set int, b string) bool {
	at := 0
	for i := range len(a) {
		if set>>i&1 == 0 {
			continue
		}
		n := strings.IndexByte(b[at:], a[i])
		if n < 0 {
			return false
		}
		at += n + 1
	}
	return true
}

// slowMake is the document's script of small texts, byte by byte, by the words of the chapter.
func slowMake(a, b string) []api.Edit {
	var l []api.Edit
	for a != "" || b != "" {
		last := len(l) - 1
		switch {
		case a != "" && b != "" && a[0] == b[0]:
			if last >= 0 && l[last].Kind == api.Keep {
				l[last].N++
			} else {
				l = append(l, keep(1))
			}
			a, b = a[1:], b[1:]
		case a != "" && (b == "" || slowCost(a[1:], b) <= slowCost(a, b[1:])):
			if last >= 0 && l[last].Kind == api.Cut {
				l[last].N++
			} else {
				l = append(l, cut(1))
			}
			a = a[1:]
		default:
			if last >= 0 && l[last].Kind == api.Put {
				l[last].Text += b[:1]
			} else {
				l = append(l, put(b[:1]))
			}
			b = b[1:]
		}
	}
	return l
}

// slowApply does a script by the words of the chapter.
func slowApply(a string, l []api.Edit) (string, api.Errno) {
	if len(a) > 1000 {
		return "", api.ErrLong
	}
	to := ""
	for _, d := range l {
		if !isRight(d) {
			return "", api.ErrArg
		}
		if d.Kind == api.Put {
			to += d.Text
		} else if d.N > len(a) {
			return "", api.ErrEnd
		} else {
			if d.Kind == api.Keep {
				to += a[:d.N]
			}
			a = a[d.N:]
		}
		if len(to) > 1000 {
			return "", api.ErrLong
		}
	}
	if len(a) > 0 {
		return "", api.ErrEnd
	}
	return to, api.OK
}

func made(t *testing.T, a, b string) []api.Edit {
	t.Helper()
	l, e := Make(a, b)
	if e != api.OK {
		t.Fatalf("Make(%.40q, %.40q): %v", a, b, e)
	}
	return l
}

func costOf(t *testing.T, l []api.Edit) int {
	t.Helper()
	n, e := Cost(l)
	if e != api.OK {
		t.Fatalf("Cost(%.200v): %v", l, e)
	}
	return n
}

func costBetween(t *testing.T, a, b string) int {
	t.Helper()
	return costOf(t, made(t, a, b))
}

// callAll makes each call that takes a script.
func callAll(a string, l []api.Edit) {
	Apply(a, l)
	Cost(l)
	Invert(a, l)
}

func TestP4_1Make(t *testing.T) {
	long, full := many("a", 1001), many("a", 1000)
	for _, x := range []struct {
		a, b string
		want []api.Edit
		e    api.Errno
	}{
		{"abc", "axc", []api.Edit{keep(1), cut(1), put("x"), keep(1)}, api.OK},
		{"", "", nil, api.OK},
		{"a", "a", []api.Edit{keep(1)}, api.OK},
		{"", "ab", []api.Edit{put("ab")}, api.OK},
		{"ab", "", []api.Edit{cut(2)}, api.OK},
		{"a", "b", []api.Edit{cut(1), put("b")}, api.OK},
		{"ab", "cd", []api.Edit{cut(2), put("cd")}, api.OK},
		{"ab", "ba", []api.Edit{cut(1), keep(1), put("a")}, api.OK},
		{"ba", "ab", []api.Edit{cut(1), keep(1), put("b")}, api.OK},
		{"ac", "bca", []api.Edit{cut(1), put("b"), keep(1), put("a")}, api.OK},
		{"xa", "yxa", []api.Edit{put("y"), keep(2)}, api.OK},
		{"ax", "axx", []api.Edit{keep(2), put("x")}, api.OK},
		{"aab", "ab", []api.Edit{keep(1), cut(1), keep(1)}, api.OK},
		{"ab", "aab", []api.Edit{keep(1), put("a"), keep(1)}, api.OK},
		{"abab", "baba", []api.Edit{cut(1), keep(3), put("a")}, api.OK},
		{"é", "è", []api.Edit{keep(1), cut(1), put("\xa8")}, api.OK},
		{full, full, []api.Edit{keep(1000)}, api.OK},
		{full, "", []api.Edit{cut(1000)}, api.OK},
		{"", full, []api.Edit{put(full)}, api.OK},
		{full, many("b", 1000), []api.Edit{cut(1000), put(many("b", 1000))}, api.OK},
		{long, "", nil, api.ErrLong},
		{"", long, nil, api.ErrLong},
		{long, full, nil, api.ErrLong},
		{full, long, nil, api.ErrLong},
		{long, long, nil, api.ErrLong},
		{many("a", 1<<20), many("b", 1<<20), nil, api.ErrLong},
	} {
		if l, e := Make(x.a, x.b); !slices.Equal(l, x.want) || e != x.e {
			t.Errorf("Make(%.20q, %.20q): %.200v %v, not %.200v %v", x.a, x.b, l, e, x.want, x.e)
		}
	}
}

// TestP4_1TheDocumentsScript holds scripts of all small texts against those that the chapter's words tell.
func TestP4_1TheDocumentsScript(t *testing.T) {
	for _, texts := range [][]string{allTexts("ab", 5), allTexts("abc", 4)} {
		for _, a := range texts {
			for _, b := range texts {
				if l, e := Make(a, b); !slices.Equal(l, slowMake(a, b)) || e != api.OK {
					t.Fatalf("Make(%q, %q): %v %v, not %v", a, b, l, e, slowMake(a, b))
				}
			}
		}
	}
	for seed := range uint32(60) {
		a, b := someText("abc", 9, seed), someText("abc", 8, seed+1000)
		if l, e := Make(a, b); !slices.Equal(l, slowMake(a, b)) || e != api.OK {
			t.Fatalf("Make(%q, %q): %v %v, not %v", a, b, l, e, slowMake(a, b))
		}
	}
}

// TestP4_1EditsAreWhole: no edit may not be, and no two neighbours are of one kind.
func TestP4_1EditsAreWhole(t *testing.T) {
	for _, p := range somePairs() {
		last := 0
		for _, d := range made(t, p[0], p[1]) {
			if !isRight(d) || d.Kind == last {
				t.Fatalf("Make(%.40q, %.40q): %.200v", p[0], p[1], d)
			}
			last = d.Kind
		}
	}
}

func TestP4_2Apply(t *testing.T) {
	full := many("a", 1000)
	bad := api.Edit{Kind: 4, N: 1}
	for _, x := range []struct {
		a    string
		l    []api.Edit
		want string
		e    api.Errno
	}{
		{"", nil, "", api.OK},
		{"", []api.Edit{}, "", api.OK},
		{"a", nil, "", api.ErrEnd},
		{"ab", []api.Edit{keep(1)}, "", api.ErrEnd},
		{"ab", []api.Edit{keep(2)}, "ab", api.OK},
		{"ab", []api.Edit{keep(1), keep(1)}, "ab", api.OK},
		{"ab", []api.Edit{cut(1), cut(1)}, "", api.OK},
		{"ab", []api.Edit{put("x"), put("y"), cut(2), put("z")}, "xyz", api.OK},
		{"abc", []api.Edit{keep(1), cut(1), put("x"), keep(1)}, "axc", api.OK},
		{"ab", []api.Edit{keep(3)}, "", api.ErrEnd},
		{"ab", []api.Edit{cut(3)}, "", api.ErrEnd},
		{"ab", []api.Edit{keep(2), cut(1)}, "", api.ErrEnd},
		{"ab", []api.Edit{cut(2), keep(1)}, "", api.ErrEnd},
		{"ab", []api.Edit{keep(math.MaxInt)}, "", api.ErrEnd},
		{"ab", []api.Edit{keep(1), cut(math.MaxInt)}, "", api.ErrEnd},
		{"ab", []api.Edit{keep(2), {}}, "", api.ErrArg},
		{"ab", []api.Edit{bad, keep(3)}, "", api.ErrArg},
		{"ab", []api.Edit{keep(3), bad}, "", api.ErrEnd},
		{"ab", []api.Edit{keep(1), bad}, "", api.ErrArg},
		{"ab", []api.Edit{put(many("x", 1001)), bad}, "", api.ErrLong},
		{"ab", []api.Edit{put(many("x", 1001))}, "", api.ErrLong},
		{"ab", []api.Edit{put(many("x", 1000))}, "", api.ErrEnd},
		{"ab", []api.Edit{put(many("x", 1000)), cut(2)}, many("x", 1000), api.OK},
		{"ab", []api.Edit{put(many("x", 999)), keep(1), cut(1)}, many("x", 999) + "a", api.OK},
		{"ab", []api.Edit{put(many("x", 999)), keep(2)}, "", api.ErrLong},
		{"ab", []api.Edit{put(many("x", 999)), keep(3)}, "", api.ErrEnd},
		{"ab", []api.Edit{keep(2), put(many("x", 998))}, "ab" + many("x", 998), api.OK},
		{"ab", []api.Edit{keep(2), put(many("x", 999))}, "", api.ErrLong},
		{"", []api.Edit{put(many("x", 500)), put(many("y", 500))}, many("x", 500) + many("y", 500), api.OK},
		{"", []api.Edit{put(many("x", 500)), put(many("y", 501))}, "", api.ErrLong},
		{full, []api.Edit{keep(1000)}, full, api.OK},
		{full, []api.Edit{keep(1000), put("x")}, "", api.ErrLong},
		{full, []api.Edit{put("x"), keep(1000)}, "", api.ErrLong},
		{full, []api.Edit{put("x"), cut(1), keep(999)}, "x" + many("a", 999), api.OK},
		{full, []api.Edit{keep(1001)}, "", api.ErrEnd},
		{full + "a", []api.Edit{cut(1001)}, "", api.ErrLong},
		{full + "a", []api.Edit{bad}, "", api.ErrLong},
		{full + "a", nil, "", api.ErrLong},
	} {
		if s, e := Apply(x.a, x.l); s != x.want || e != x.e {
			t.Errorf("Apply(%.20q, %.200v): %.40q %v, not %.40q %v", x.a, x.l, s, e, x.want, x.e)
		}
	}
}

// TestP4_2EachEdit does each kind of edit, alone and between others, on texts of some sizes.
func TestP4_2EachEdit(t *testing.T) {
	edits := someEdits()
	for _, a := range []string{"", "a", "abc", many("a", 999), many("a", 1000), many("a", 1001), many("a", 100000)} {
		for _, d := range edits {
			for _, l := range [][]api.Edit{{d}, {d, d}, {keep(1), d}, {put("x"), d}, {d, cut(1)}, {put(many("x", 998)), d, cut(2)}} {
				want, wantE := slowApply(a, l)
				if s, e := Apply(a, l); s != want || e != wantE {
					t.Fatalf("Apply of %d bytes, %.200v: %.40q %v, not %.40q %v", len(a), l, s, e, want, wantE)
				}
			}
		}
	}
}

// TestP4_2EachSmallScript does all scripts of up to four of some edits.
func TestP4_2EachSmallScript(t *testing.T) {
	edits := []api.Edit{keep(1), keep(2), cut(1), cut(2), put("x"), put("yz"), {}, keep(0), put("")}
	for _, row := range allTexts("012345678", 4) {
		var l []api.Edit
		for i := range len(row) {
			l = append(l, edits[row[i]-'0'])
		}
		for _, a := range []string{"", "a", "ab", "abc"} {
			want, wantE := slowApply(a, l)
			if s, e := Apply(a, l); s != want || e != wantE {
				t.Fatalf("Apply(%q, %v): %q %v, not %q %v", a, l, s, e, want, wantE)
			}
		}
	}
}

func TestP4_3Cost(t *testing.T) {
	for _, x := range []struct {
		l    []api.Edit
		want int
		e    api.Errno
	}{
		{nil, 0, api.OK},
		{[]api.Edit{}, 0, api.OK},
		{[]api.Edit{keep(7)}, 0, api.OK},
		{[]api.Edit{cut(7)}, 7, api.OK},
		{[]api.Edit{put("abc")}, 3, api.OK},
		{[]api.Edit{keep(1), cut(1), put("x"), keep(1)}, 2, api.OK},
		{[]api.Edit{cut(2), cut(3), put("a"), put("bé")}, 9, api.OK},
		{[]api.Edit{keep(1000), cut(1000)}, 1000, api.OK},
		{[]api.Edit{cut(1000), cut(1000), cut(1000)}, 3000, api.OK},
		{[]api.Edit{put(many("x", 1001)), put(many("x", 5000))}, 6001, api.OK},
		{[]api.Edit{keep(1001)}, 0, api.ErrArg},
		{[]api.Edit{cut(1001)}, 0, api.ErrArg},
		{[]api.Edit{cut(3), cut(math.MaxInt)}, 0, api.ErrArg},
		{[]api.Edit{cut(3), keep(math.MaxInt)}, 0, api.ErrArg},
		{[]api.Edit{cut(3), {}}, 0, api.ErrArg},
	} {
		if n, e := Cost(x.l); n != x.want || e != x.e {
			t.Errorf("Cost(%.200v): %d %v, not %d %v", x.l, n, e, x.want, x.e)
		}
	}
}

func TestP4_3EachEdit(t *testing.T) {
	for _, d := range someEdits() {
		want, wantE := 0, api.OK
		switch {
		case !isRight(d) || d.N > 1000:
			wantE = api.ErrArg
		case d.Kind == api.Cut:
			want = d.N
		case d.Kind == api.Put:
			want = len(d.Text)
		}
		if n, e := Cost([]api.Edit{d}); n != want || e != wantE {
			t.Errorf("Cost(%.200v): %d %v, not %d %v", d, n, e, want, wantE)
		}
		if wantE == api.OK {
			want += 5
		}
		if n, e := Cost([]api.Edit{cut(2), d, keep(9), put("abc")}); n != want || e != wantE {
			t.Errorf("Cost(.. %.200v ..): %d %v, not %d %v", d, n, e, want, wantE)
		}
	}
}

func TestP4_4Invert(t *testing.T) {
	for _, x := range []struct {
		a    string
		l    []api.Edit
		want []api.Edit
		e    api.Errno
	}{
		{"", nil, nil, api.OK},
		{"", []api.Edit{}, nil, api.OK},
		{"abc", []api.Edit{keep(1), cut(1), put("x"), keep(1)}, []api.Edit{keep(1), put("b"), cut(1), keep(1)}, api.OK},
		{"abcd", []api.Edit{keep(1), keep(1), cut(1), cut(1)}, []api.Edit{keep(1), keep(1), put("c"), put("d")}, api.OK},
		{"ab", []api.Edit{put("xyz"), put("é"), cut(2)}, []api.Edit{cut(3), cut(2), put("ab")}, api.OK},
		{many("a", 1000), []api.Edit{cut(1000), put(many("b", 1000))}, []api.Edit{put(many("a", 1000)), cut(1000)}, api.OK},
		{"a", nil, nil, api.ErrEnd},
		{"ab", []api.Edit{keep(1)}, nil, api.ErrEnd},
		{"ab", []api.Edit{cut(3)}, nil, api.ErrEnd},
		{"ab", []api.Edit{keep(2), {}}, nil, api.ErrArg},
		{"ab", []api.Edit{keep(2), put(many("x", 999))}, nil, api.ErrLong},
		{many("a", 1001), []api.Edit{cut(1001)}, nil, api.ErrLong},
	} {
		if l, e := Invert(x.a, x.l); !slices.Equal(l, x.want) || e != x.e {
			t.Errorf("Invert(%.20q, %.200v): %.200v %v, not %.200v %v", x.a, x.l, l, e, x.want, x.e)
		}
	}
}

// TestP4_4ErrorsOfApply: Invert refuses what Apply refuses, by the same error, and nothing else.
func TestP4_4ErrorsOfApply(t *testing.T) {
	for _, a := range []string{"", "a", "abc", many("a", 999), many("a", 1000), many("a", 1001)} {
		for _, d := range someEdits() {
			for _, l := range [][]api.Edit{{d}, {keep(1), d}, {put("x"), d}, {d, cut(1)}, {put(many("x", 998)), d, cut(2)}} {
				_, want := slowApply(a, l)
				back, e := Invert(a, l)
				if e != want || e != api.OK && len(back) > 0 || e == api.OK && len(back) != len(l) {
					t.Fatalf("Invert of %d bytes, %.200v: %.200v %v, not %v", len(a), l, back, e, want)
				}
			}
		}
	}
}

func TestP4_5ApplyOfMake(t *testing.T) {
	for _, p := range somePairs() {
		if s, e := Apply(p[0], made(t, p[0], p[1])); s != p[1] || e != api.OK {
			t.Fatalf("Apply of Make(%.40q, %.40q): %.40q %v", p[0], p[1], s, e)
		}
	}
}

func TestP4_6NoneCostsLess(t *testing.T) {
	for _, texts := range [][]string{allTexts("ab", 6), allTexts("abcd", 3)} {
		for _, a := range texts {
			for _, b := range texts {
				if n := costBetween(t, a, b); n != slowCost(a, b) {
					t.Fatalf("the cost from %q to %q: %d, not %d", a, b, n, slowCost(a, b))
				}
			}
		}
	}
	for seed := range uint32(40) {
		a, b := someText("abc", 12, seed), someText("abc", int(seed), seed+1000)
		if n := costBetween(t, a, b); n != slowCost(a, b) {
			t.Fatalf("the cost from %q to %q: %d, not %d", a, b, n, slowCost(a, b))
		}
	}
	for _, x := range []struct {
		a, b string
		want int
	}{
		{many("ab", 500), many("ba", 500), 2},
		{many("a", 1000), many("b", 1000), 2000},
		{many("a", 600) + many("b", 400), many("b", 400) + many("a", 600), 800},
		{many("abc", 300), many("ac", 300), 300},
		{many("x", 999) + "y", "y" + many("x", 999), 2},
	} {
		if n := costBetween(t, x.a, x.b); n != x.want {
			t.Errorf("the cost from %.20q to %.20q: %d, not %d", x.a, x.b, n, x.want)
		}
	}
}

func TestP4_7InvertLeadsBack(t *testing.T) {
	for _, p := range somePairs() {
		wayThereAndBack(t, p[0], made(t, p[0], p[1]))
	}
	full := many("a", 400) + many("b", 600)
	for _, x := range []struct {
		a string
		l []api.Edit
	}{
		{"abc", []api.Edit{keep(1), keep(1), put("x"), put("yz"), cut(1), put("w")}},
		{"abc", []api.Edit{put("x"), cut(1), put("y"), cut(1), put("z"), cut(1)}},
		{full, []api.Edit{cut(500), put(many("c", 300)), keep(500), put(many("d", 200))}},
		{full, []api.Edit{cut(1000), put(full)}},
		{full, []api.Edit{cut(1), cut(999)}},
	} {
		wayThereAndBack(t, x.a, x.l)
	}
}

// wayThereAndBack does a script, and what Invert makes of it, and once more.
func wayThereAndBack(t *testing.T, a string, l []api.Edit) {
	t.Helper()
	to, e := Apply(a, l)
	if e != api.OK {
		t.Fatalf("Apply(%.40q, %.200v): %v", a, l, e)
	}
	back, e := Invert(a, l)
	if e != api.OK || len(back) != len(l) {
		t.Fatalf("Invert(%.40q, %.200v): %.200v %v", a, l, back, e)
	}
	if s, e := Apply(to, back); s != a || e != api.OK {
		t.Fatalf("behind %.200v, %.200v leads from %.40q to %.40q %v, not to %.40q", l, back, to, s, e, a)
	}
	if again, e := Invert(to, back); !slices.Equal(again, l) || e != api.OK {
		t.Fatalf("Invert(%.40q, %.200v): %.200v %v, not %.200v", to, back, again, e, l)
	}
	if there, here := costOf(t, l), costOf(t, back); there != here {
		t.Fatalf("%.200v costs %d, and its way back %d", l, there, here)
	}
}

func TestP4_8CostIsADistance(t *testing.T) {
	for _, p := range somePairs() {
		there, back := costBetween(t, p[0], p[1]), costBetween(t, p[1], p[0])
		if there != back || (there == 0) != (p[0] == p[1]) {
			t.Fatalf("%.40q and %.40q: %d there, %d back", p[0], p[1], there, back)
		}
	}
	texts := append(allTexts("ab", 3), allTexts("abc", 2)...)
	for seed := range uint32(8) {
		texts = append(texts, someText("abc", 10+3*int(seed), seed))
	}
	for _, a := range texts {
		for _, b := range texts {
			straight := costBetween(t, a, b)
			for _, c := range texts {
				if n := costBetween(t, a, c) + costBetween(t, c, b); n < straight {
					t.Fatalf("from %q to %q: %d, and by %q: %d", a, b, straight, c, n)
				}
			}
		}
	}
}

func TestP4_9WhatBothHaveCostsNothing(t *testing.T) {
	for _, p := range somePairs() {
		if len(p[0]) > 900 || len(p[1]) > 900 {
			continue
		}
		want := costBetween(t, p[0], p[1])
		for _, x := range [][2]string{{"", "a"}, {"a", ""}, {"b", "b"}, {"ab", "ba"}, {"the quick\n", "\nox"}, {"", many("ab", 15)}, {many("a", 29), "c"}} {
			if n := costBetween(t, x[0]+p[0]+x[1], x[0]+p[1]+x[1]); n != want {
				t.Fatalf("%.40q and %.40q cost %d, and between %.40q and %.40q %d", p[0], p[1], want, x[0], x[1], n)
			}
		}
	}
}

// TestP1NoCallPanics hands on hand-made scripts, of edits of all kinds.
func TestP1NoCallPanics(t *testing.T) {
	edits := someEdits()
	for _, a := range []string{"", "a", many("a", 1000), many("a", 1001)} {
		callAll(a, nil)
		callAll(a, edits)
		for i, d := range edits {
			callAll(a, []api.Edit{d, edits[(i*7+3)%len(edits)], d})
		}
	}
	ones := slices.Repeat([]api.Edit{keep(1)}, 100000)
	callAll(many("a", 1000), ones)
	callAll("", slices.Repeat([]api.Edit{put(many("x", 1000))}, 100000))
	if n, e := Cost(slices.Repeat([]api.Edit{put(many("x", 1<<20))}, 5000)); n != 5000<<20 || e != api.OK {
		t.Errorf("Cost of many long edits: %d %v", n, e)
	}
}

// TestP1ArgumentsAreNotTurned hands on scripts with room behind them.
func TestP1ArgumentsAreNotTurned(t *testing.T) {
	for _, p := range somePairs() {
		l := made(t, p[0], p[1])
		wide := append(slices.Clone(l), keep(3), cut(4), put("behind"), api.Edit{Kind: 9})
		was := slices.Clone(wide)
		callAll(p[0], wide[:len(l)])
		callAll("other", wide[:len(l)])
		if !slices.Equal(wide, was) {
			t.Fatalf("from %.40q to %.40q: a script, or the room behind it, was turned", p[0], p[1])
		}
	}
}

// TestP1AnswersAreNew writes all over an answer, with the room behind it: no later answer is another one by that.
func TestP1AnswersAreNew(t *testing.T) {
	a, b := "the quick brown fox", "the slow brown ox!"
	l := made(t, a, b)
	was := slices.Clone(l)
	back, _ := Invert(a, l)
	backWas := slices.Clone(back)
	for _, x := range [][]api.Edit{made(t, a, b), back} {
		x = x[:cap(x)]
		for i := range x {
			x[i] = api.Edit{Kind: 9, N: 9, Text: "9"}
		}
	}
	if !slices.Equal(l, was) || !slices.Equal(made(t, a, b), was) {
		t.Error("an answer of Make shares memory with another answer")
	}
	if again, _ := Invert(a, l); !slices.Equal(again, backWas) {
		t.Error("an answer of Invert shares memory with another one")
	}
}

// TestP1TextsAreNew: the texts of an answer stand elsewhere than those that were handed in.
func TestP1TextsAreNew(t *testing.T) {
	a, b := strings.Clone("the quick brown fox"), strings.Clone("a slow brown ox!")
	for _, p := range [][2]string{{a, b}, {b, a}, {"", a}, {a, ""}, {a, a}, {a + "!", a}} {
		l := made(t, p[0], p[1])
		to, _ := Apply(p[0], l)
		back, _ := Invert(p[0], l)
		answers := []string{to}
		for _, d := range slices.Concat(l, back) {
			answers = append(answers, d.Text)
		}
		for i, s := range answers {
			for _, other := range append([]string{p[0], p[1]}, answers[:i]...) {
				if shares(s, other) {
					t.Errorf("from %q to %q: the answer %q shares its memory with %q", p[0], p[1], s, other)
				}
			}
		}
	}
	whole := []api.Edit{put(strings.Clone("whole"))}
	if s, _ := Apply("", whole); s != "whole" || shares(s, whole[0].Text) {
		t.Errorf("Apply of one Put: %q, of the Put's own memory", s)
	}
}

// shares tells whether two texts stand in the same memory.
func shares(a, b string) bool {
	if a == "" || b == "" {
		return false
	}
	beginA, beginB := uintptr(unsafe.Pointer(unsafe.StringData(a))), uintptr(unsafe.Pointer(unsafe.StringData(b)))
	return beginA < beginB+uintptr(len(b)) && beginB < beginA+uintptr(len(a))
}

// TestP1SameAnswers asks again, with other calls in between, and with nil for empty.
func TestP1SameAnswers(t *testing.T) {
	for _, p := range somePairs() {
		l := made(t, p[0], p[1])
		made(t, p[1], p[0])
		callAll(p[1], l)
		if !slices.Equal(made(t, p[0], p[1]), l) {
			t.Fatalf("Make(%.40q, %.40q) has two answers", p[0], p[1])
		}
	}
	for _, a := range []string{"", "a", many("a", 1001)} {
		s, e := Apply(a, nil)
		sEmpty, eEmpty := Apply(a, []api.Edit{})
		back, eBack := Invert(a, nil)
		backEmpty, eBackEmpty := Invert(a, []api.Edit{})
		if s != sEmpty || e != eEmpty || len(back) != len(backEmpty) || eBack != eBackEmpty {
			t.Errorf("on %.20q nil and empty do not mean the same", a)
		}
	}
}

// TestLeastCosts: each row has the costs that the chapter tells, and no room into the one behind it.
func TestLeastCosts(t *testing.T) {
	for _, p := range [][2]string{{"", ""}, {"abc", ""}, {"", "xy"}, {"abcab", "bacb"}, {"aab", "abab"}} {
		a, b := p[0], p[1]
		rows := leastCosts(a, b)
		if len(rows) != len(a)+1 {
			t.Fatalf("from %q to %q: %d rows", a, b, len(rows))
		}
		for i, row := range rows {
			if len(row) != len(b)+1 || cap(row) != len(row) {
				t.Fatalf("from %q to %q, the row %d: %d costs, with room for %d", a, b, i, len(row), cap(row))
			}
			for j, n := range row {
				if n != slowCost(a[i:], b[j:]) {
					t.Errorf("from %q to %q: %d, not %d", a[i:], b[j:], n, slowCost(a[i:], b[j:]))
				}
			}
		}
	}
}

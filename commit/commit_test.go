package commit

import (
	"bytes"
	"crypto/sha256"
	"fmt"
	"math"
	"slices"
	"strings"
	"testing"
	"unsafe"

	"recension/api"
)

// The bytes that may stand in a name, one by one.
const nameBytes = "ABCDEFGHIJKLMNOPQRSTUVWXYZabcdefghijklmnopqrstuvwxyz0123456789-_.#@~"

// many are n texts c, one behind the other.
func many(c string, n int) string { return strings.Repeat(c, n) }

// row writes texts one behind the other.
func row(pieces ...string) string { return strings.Join(pieces, "") }

// num are a number's bytes, as chapter 2 tells them.
func num(n int) string {
	if n < 128 {
		return string([]byte{byte(n)})
	}
	return string([]byte{byte(n%128 + 128)}) + num(n/128)
}

// text are a text's bytes.
func text(s string) string { return num(len(s)) + s }

// dig is a digest that begins with some bytes, and has noughts behind them.
func dig(b ...byte) (d api.Digest) {
	copy(d[:], b)
	return d
}

// digs are digests that begin with these bytes.
func digs(first ...byte) []api.Digest {
	var l []api.Digest
	for _, x := range first {
		l = append(l, dig(x))
	}
	return l
}

// raw are a digest's bytes.
func raw(d api.Digest) string { return string(d[:]) }

func own(n int) api.Ref               { return api.Ref{Own: true, N: n} }
func far(d api.Digest, n int) api.Ref { return api.Ref{Commit: d, N: n} }
func ins(at api.Ref, x byte) api.Op   { return api.Op{Kind: api.Ins, At: at, Byte: x} }
func left(at api.Ref, x byte) api.Op  { return api.Op{Kind: api.Ins, Left: true, At: at, Byte: x} }
func del(at api.Ref) api.Op           { return api.Op{Kind: api.Del, At: at} }
func by(ops ...api.Op) api.Commit     { return api.Commit{Author: "q", Ops: ops} }

// root is the Ref of which all fields are zero.
var root api.Ref

// lot draws numbers of which each one hangs on the one ahead of it.
type lot uint32

// below is one from 0 on, below n.
func (l *lot) below(n int) int {
	*l = *l*1664525 + 1013904223
	return int(*l>>8) % n
}

// commit draws a commit that may be, of at most so many operations.
func (l *lot) commit(most int) api.Commit {
	c := api.Commit{Author: strings.Repeat(nameBytes[l.below(68):][:1], 1+l.below(24)), Note: many("n\n\x00", l.below(60))}
	for x := byte(l.below(50)); len(c.Parents) < l.below(10) && len(c.Parents) < 8; x += byte(1 + l.below(20)) {
		c.Parents = append(c.Parents, dig(x, byte(l.below(256))))
	}
	for n := l.below(most + 1); len(c.Ops) < n; {
		c.Ops = append(c.Ops, l.op(c.Ops))
	}
	return c
}

// op draws an operation that may be, and finds its element, behind others.
func (l *lot) op(ahead []api.Op) api.Op {
	at := far(dig(byte(l.below(3)), 7), 1+l.below(2000))
	if n := l.below(len(ahead) + 1); n > 0 && ahead[n-1].Kind == api.Ins && l.below(4) > 0 {
		at = own(n)
	}
	switch l.below(4) {
	case 0:
		return del(at)
	case 1:
		return left(at, byte(l.below(256)))
	case 2:
		return ins(root, byte(l.below(256)))
	}
	return ins(at, byte(l.below(256)))
}

// greatestCommit is at all limits at once.
func greatestCommit() api.Commit {
	c := api.Commit{Parents: digs(1, 2, 3, 4, 5, 6, 7, 255), Author: many("~", 24), Note: many("\xff", 200)}
	for i := range 2000 {
		c.Ops = append(c.Ops, left(far(dig(255, byte(i), byte(i>>8)), 2000-i%3), byte(i)))
	}
	return c
}

// someCommits may be.
func someCommits() []api.Commit {
	l := []api.Commit{
		by(), by(ins(root, 0)), by(ins(root, 'a')), by(ins(root, 255)), by(ins(root, 'a'), ins(own(1), 'b')), by(ins(root, 'a'), left(own(1), 'b')),
		by(ins(root, 'a'), del(own(1))), by(ins(root, 'a'), del(own(1)), del(own(1))), by(del(far(dig(), 1))), by(del(far(dig(1), 1))), by(del(far(dig(1), 2))),
		by(ins(far(dig(1), 1), 'a')), by(left(far(dig(1), 1), 'a')), by(ins(far(dig(1), 2000), 'a')), {Author: "q", Note: "n"}, {Author: "qn"}, {Author: "n", Note: "q"},
		{Author: "q", Parents: digs(0)}, {Author: "q", Parents: digs(1)}, {Author: "q", Parents: digs(0, 1)}, {Author: "q", Parents: digs(0, 1), Ops: []api.Op{ins(root, 0)}},
		{Author: "q", Parents: digs(1, 2, 3, 4, 5, 6, 7, 8)}, {Author: many("a", 24), Note: many("n", 200)}, {Author: "q", Note: many("n", 127)}, {Author: "q", Note: many("n", 128)},
		by(slices.Repeat([]api.Op{ins(root, 'a')}, 127)...), by(slices.Repeat([]api.Op{ins(root, 'a')}, 128)...), by(slices.Repeat([]api.Op{ins(root, 'a')}, 2000)...), greatestCommit(),
	}
	var draw lot
	for i := range 300 {
		l = append(l, draw.commit(1+i/4))
	}
	return l
}

// someRefs are of all kinds, some of which may not be.
func someRefs() []api.Ref {
	var l []api.Ref
	for _, n := range []int{math.MinInt, -1, 0, 1, 2, 3, 1999, 2000, 2001, math.MaxInt} {
		for _, d := range []api.Digest{{}, dig(1), {31: 1}} {
			l = append(l, api.Ref{Own: true, Commit: d, N: n}, api.Ref{Commit: d, N: n})
		}
	}
	return l
}

// someOps are of all kinds, some of which may not be.
func someOps() []api.Op {
	var l []api.Op
	for _, kind := range []int{math.MinInt, -1, 0, 1, 2, 3, math.MaxInt} {
		for _, at := range someRefs() {
			for _, x := range []byte{0, 'a'} {
				l = append(l, api.Op{Kind: kind, At: at, Byte: x}, api.Op{Kind: kind, Left: true, At: at, Byte: x})
			}
		}
	}
	return l
}

// someOthers are commits of which most may not be.
func someOthers() []api.Commit {
	l := []api.Commit{{}, {Author: many("a", 25)}, {Author: "q", Note: many("n", 201)}, {Author: "a b"}, {Author: "q", Parents: digs(1, 1)}, {Author: "q", Parents: digs(2, 1)},
		{Author: "q", Parents: digs(1, 2, 3, 4, 5, 6, 7, 8, 9)}, by(slices.Repeat([]api.Op{ins(root, 'a')}, 2001)...),
		{Parents: make([]api.Digest, 1000), Author: many("a", 1<<20), Note: many("\x00", 1<<20), Ops: make([]api.Op, 50000)}}
	for _, op := range someOps() {
		l = append(l, by(op), by(ins(root, 'x'), op), by(del(far(dig(), 1)), op, op))
	}
	return l
}

// kindOf tells which Ref it is, by the words of the chapter: "" is none that may be.
func kindOf(r api.Ref) string {
	zero := r.Commit == api.Digest{}
	switch {
	case !r.Own && zero && r.N == 0:
		return "root"
	case r.Own && zero && r.N > 0:
		return "own"
	case !r.Own && 1 <= r.N && r.N <= 2000:
		return "far"
	}
	return ""
}

// slowRight is what P6.1 tells of an operation.
func slowRight(l []api.Op, i int) api.Errno {
	if i < 1 || len(l) < i {
		return api.ErrRange
	}
	op := l[i-1]
	kind := kindOf(op.At)
	isIns := op.Kind == 1 && kind != "" && !(kind == "root" && op.Left)
	isDel := op.Kind == 2 && kind != "" && kind != "root" && !op.Left && op.Byte == 0
	if !isIns && !isDel {
		return api.ErrArg
	}
	if kind != "own" {
		return api.OK
	}
	for n := 1; n < i; n++ {
		if n == op.At.N && l[n-1].Kind == 1 {
			return api.OK
		}
	}
	return api.ErrNone
}

// slowMay is what P6.1 tells of a commit.
func slowMay(c api.Commit) api.Errno {
	if len(c.Parents) > 8 {
		return api.ErrMany
	}
	for i := range c.Parents {
		if i > 0 && raw(c.Parents[i-1]) >= raw(c.Parents[i]) {
			return api.ErrForm
		}
	}
	if len(c.Author) < 1 || len(c.Author) > 24 || strings.Trim(c.Author, nameBytes) != "" {
		return api.ErrName
	}
	if len(c.Note) > 200 {
		return api.ErrLong
	}
	if len(c.Ops) > 2000 {
		return api.ErrMany
	}
	for i := range c.Ops {
		if e := slowRight(c.Ops, i+1); e != api.OK {
			return e
		}
	}
	return api.OK
}

// slowBytes are the bytes of a commit that may be, by the words of the chapter.
func slowBytes(c api.Commit) string {
	var s strings.Builder
	s.WriteString(num(len(c.Parents)))
	for _, p := range c.Parents {
		s.WriteString(raw(p))
	}
	s.WriteString(row(text(c.Author), text(c.Note), num(len(c.Ops))))
	for _, op := range c.Ops {
		first := map[int]int{1: 0, 2: 1}[op.Kind]
		if op.Left {
			first += 2
		}
		rest := ""
		switch kindOf(op.At) {
		case "own":
			first += 4
			rest = num(op.At.N)
		case "far":
			first += 8
			rest = raw(op.At.Commit) + num(op.At.N)
		}
		if op.Kind == 1 {
			rest += string([]byte{op.Byte})
		}
		s.WriteString(num(first) + rest)
	}
	return s.String()
}

// slowGet is the number at the beginning of b, and what is behind it, with chapter 2's errors.
func slowGet(b string) (n int, rest string, e api.Errno) {
	for i := 0; ; i++ {
		if i == len(b) {
			return 0, "", api.ErrEnd
		}
		if i == 8 && b[i] >= 128 {
			return 0, "", api.ErrRange
		}
		n |= int(b[i]&127) << (7 * i)
		if b[i] < 128 {
			if b[i] == 0 && i > 0 {
				return 0, "", api.ErrForm
			}
			return n, b[i+1:], api.OK
		}
	}
}

// slowText is the text at the beginning of b, and what is behind it, with chapter 2's errors.
func slowText(b string) (s, rest string, e api.Errno) {
	n, rest, e := slowGet(b)
	switch {
	case e != api.OK:
		return "", "", e
	case n > 1<<17:
		return "", "", api.ErrLong
	case n > len(rest):
		return "", "", api.ErrEnd
	}
	return rest[:n], rest[n:], api.OK
}

// slowDecode is what P6.3 tells.
func slowDecode(b string) (api.Commit, api.Errno) {
	var c api.Commit
	if len(b) > 1<<17 {
		return c, api.ErrLong
	}
	n, b, e := slowGet(b)
	if e != api.OK {
		return c, e
	}
	if n > 8 {
		return c, api.ErrMany
	}
	if n*32 > len(b) {
		return c, api.ErrEnd
	}
	for i := range n {
		c.Parents = append(c.Parents, dig([]byte(b[32*i:32*i+32])...))
	}
	if c.Author, b, e = slowText(b[32*n:]); e != api.OK {
		return c, e
	}
	if c.Note, b, e = slowText(b); e != api.OK {
		return c, e
	}
	if n, b, e = slowGet(b); e != api.OK {
		return c, e
	}
	if n > 2000 {
		return c, api.ErrMany
	}
	for range n {
		var op api.Op
		if op, b, e = slowOp(b); e != api.OK {
			return c, e
		}
		c.Ops = append(c.Ops, op)
	}
	if b != "" {
		return c, api.ErrForm
	}
	return c, slowMay(c)
}

// slowOp is the operation at the beginning of b, and what is behind it.
func slowOp(b string) (op api.Op, rest string, e api.Errno) {
	n, b, e := slowGet(b)
	if e != api.OK {
		return op, "", e
	}
	if n >= 12 {
		return op, "", api.ErrForm
	}
	op.Kind, op.Left, op.At.Own = 1+n%2, n/2%2 == 1, n/4 == 1
	if n/4 == 2 {
		if len(b) < 32 {
			return op, "", api.ErrEnd
		}
		op.At.Commit, b = dig([]byte(b[:32])...), b[32:]
	}
	if n/4 > 0 {
		if op.At.N, b, e = slowGet(b); e != api.OK {
			return op, "", e
		}
		if op.At.N == 0 {
			return op, "", api.ErrForm
		}
	}
	if n%2 == 1 {
		return op, b, api.OK
	}
	if b == "" {
		return op, "", api.ErrEnd
	}
	op.Byte = b[0]
	return op, b[1:], api.OK
}

// shown is what a test tells of something that may be long.
func shown(x any) string {
	s := fmt.Sprint(x)
	return strings.ToValidUTF8(s[:min(len(s), 300)], "?")
}

// isZero tells whether a commit is the zero one.
func isZero(c api.Commit) bool {
	return len(c.Parents) == 0 && c.Author == "" && c.Note == "" && len(c.Ops) == 0
}

// alike holds all fields of two commits against each other.
func alike(a, b api.Commit) bool {
	if len(a.Parents) != len(b.Parents) || len(a.Ops) != len(b.Ops) {
		return false
	}
	for i := range a.Parents {
		if a.Parents[i] != b.Parents[i] {
			return false
		}
	}
	for i := range a.Ops {
		if a.Ops[i] != b.Ops[i] {
			return false
		}
	}
	return a.Author == b.Author && a.Note == b.Note
}

// encoded is what Encode answers without an error.
func encoded(t *testing.T, c api.Commit) string {
	t.Helper()
	b, e := Encode(c)
	if e != api.OK {
		t.Fatalf("Encode(%s): %v", shown(c), e)
	}
	return string(b)
}

// holdDecode holds Decode against the slow one.
func holdDecode(t *testing.T, b string) {
	t.Helper()
	c, e := Decode([]byte(b))
	slow, want := slowDecode(b)
	if e != want || e == api.OK && !alike(c, slow) || e != api.OK && !isZero(c) {
		t.Fatalf("Decode(%.80q): %s %v, not %s %v", b, shown(c), e, shown(slow), want)
	}
}

func TestP6_1Name(t *testing.T) {
	for x := range 256 {
		s := string([]byte{byte(x)})
		want := strings.Contains(nameBytes, s)
		for _, name := range []string{s, s + "a", "a" + s, "a" + s + "a", many("a", 23) + s, s + many("a", 23), many(s, 24)} {
			if Name(name) != want {
				t.Errorf("Name(%q): %v", name, !want)
			}
		}
		if Name(many("a", 24)+s) || Name(s+many("a", 24)) {
			t.Errorf("a name of 25 bytes, %q among them", s)
		}
	}
	for _, name := range []string{"", many("a", 25), many("a", 48), many("a", 1<<20), "é", "a b", "a/b", "a\x00", "\nmain", "main\n", "A:", "日"} {
		if Name(name) {
			t.Errorf("Name(%.40q): true", name)
		}
	}
	for _, name := range []string{"main", "#v1", "origin@main", "~", "-", ".", "..", "a-b_c.d", nameBytes[:24], nameBytes[24:48], nameBytes[48:]} {
		if !Name(name) {
			t.Errorf("Name(%q): false", name)
		}
	}
}

func TestP6_1Right(t *testing.T) {
	a, b := ins(root, 'a'), del(far(dig(1), 3))
	for _, x := range []struct {
		l    []api.Op
		i    int
		want api.Errno
	}{
		{nil, 1, api.ErrRange},
		{nil, 0, api.ErrRange},
		{[]api.Op{a}, 1, api.OK},
		{[]api.Op{a}, 0, api.ErrRange},
		{[]api.Op{a}, 2, api.ErrRange},
		{[]api.Op{a}, -1, api.ErrRange},
		{[]api.Op{a}, math.MaxInt, api.ErrRange},
		{[]api.Op{a}, math.MinInt, api.ErrRange},

		// The root.
		{[]api.Op{left(root, 'a')}, 1, api.ErrArg},
		{[]api.Op{del(root)}, 1, api.ErrArg},
		{[]api.Op{ins(root, 0)}, 1, api.OK},

		// A Del has neither Left nor Byte.
		{[]api.Op{a, del(own(1))}, 2, api.OK},
		{[]api.Op{a, {Kind: api.Del, Left: true, At: own(1)}}, 2, api.ErrArg},
		{[]api.Op{a, {Kind: api.Del, At: own(1), Byte: 1}}, 2, api.ErrArg},

		// Far Refs.
		{[]api.Op{b}, 1, api.OK},
		{[]api.Op{del(far(dig(), 1))}, 1, api.OK},
		{[]api.Op{left(far(dig(1), 2000), 'a')}, 1, api.OK},
		{[]api.Op{left(far(dig(1), 2001), 'a')}, 1, api.ErrArg},
		{[]api.Op{ins(far(dig(1), 0), 'a')}, 1, api.ErrArg},
		{[]api.Op{ins(far(dig(1), -1), 'a')}, 1, api.ErrArg},

		// Own Refs.
		{[]api.Op{a, ins(own(0), 'b')}, 2, api.ErrArg},
		{[]api.Op{a, ins(own(-1), 'b')}, 2, api.ErrArg},
		{[]api.Op{a, ins(api.Ref{Own: true, Commit: dig(1), N: 1}, 'b')}, 2, api.ErrArg},
		{[]api.Op{a, ins(own(1), 'b')}, 2, api.OK},
		{[]api.Op{a, left(own(1), 'b')}, 2, api.OK},
		{[]api.Op{a, ins(own(2), 'b')}, 2, api.ErrNone},
		{[]api.Op{a, ins(own(3), 'b'), a}, 2, api.ErrNone},
		{[]api.Op{a, ins(own(2001), 'b')}, 2, api.ErrNone},
		{[]api.Op{a, ins(own(math.MaxInt), 'b')}, 2, api.ErrNone},
		{[]api.Op{b, ins(own(1), 'b')}, 2, api.ErrNone},
		{[]api.Op{b, del(own(1))}, 2, api.ErrNone},
		{[]api.Op{ins(own(1), 'b')}, 1, api.ErrNone},
		{[]api.Op{a, b, a, del(own(3))}, 4, api.OK},
		{[]api.Op{a, b, a, del(own(2))}, 4, api.ErrNone},
		{[]api.Op{a, del(own(1)), del(own(1))}, 3, api.OK},

		// What the others are does not matter.
		{[]api.Op{a, {}, del(own(1))}, 3, api.OK},
		{[]api.Op{a, {}, del(own(2))}, 3, api.ErrNone},
		{[]api.Op{a, {}, del(own(1))}, 2, api.ErrArg},
		{append(slices.Repeat([]api.Op{a}, 3000), del(own(3000))), 3001, api.OK},
	} {
		if e := Right(x.l, x.i); e != x.want {
			t.Errorf("Right(%s, %d): %v, not %v", shown(x.l), x.i, e, x.want)
		}
	}
}

// TestP6_1EachOperation holds Right against the slow one, with other operations ahead and behind.
func TestP6_1EachOperation(t *testing.T) {
	for _, op := range someOps() {
		for _, l := range [][]api.Op{
			{op}, {op, op}, {ins(root, 'a'), op}, {del(far(dig(1), 1)), op, ins(root, 'a')}, {{Kind: 7}, op}, {{}, ins(root, 'a'), op, ins(root, 'b')},
			append(slices.Repeat([]api.Op{ins(root, 'a')}, 2000), op), append(slices.Repeat([]api.Op{ins(root, 'a')}, 1999), op, op),
		} {
			for _, i := range []int{math.MinInt, -1, 0, 1, 2, 3, 4, 5, 2000, 2001, 2002, math.MaxInt} {
				if e, want := Right(l, i), slowRight(l, i); e != want {
					t.Fatalf("Right(%s, %d): %v, not %v", shown(l), i, e, want)
				}
			}
		}
	}
}

// TestP6_1TheFirstError has all faults of a commit beside one another.
func TestP6_1TheFirstError(t *testing.T) {
	faults := []struct {
		e   api.Errno
		put func(c *api.Commit)
	}{
		{api.ErrMany, func(c *api.Commit) { c.Parents = append(c.Parents, digs(1, 2, 3, 4, 5, 6, 7, 8, 9)...) }},
		{api.ErrForm, func(c *api.Commit) { c.Parents = append(c.Parents, dig(9), dig(9)) }},
		{api.ErrName, func(c *api.Commit) { c.Author = "a b" }},
		{api.ErrLong, func(c *api.Commit) { c.Note = many("n", 201) }},
		{api.ErrMany, func(c *api.Commit) { c.Ops = append(c.Ops, slices.Repeat([]api.Op{ins(root, 'a')}, 2001)...) }},
		{api.ErrArg, func(c *api.Commit) { c.Ops = append([]api.Op{{}}, c.Ops...) }},
		{api.ErrNone, func(c *api.Commit) { c.Ops = append(c.Ops, del(own(len(c.Ops)+1))) }},
	}
	for which := range 1 << len(faults) {
		c, want := by(), api.OK
		for i, f := range faults {
			if which>>i&1 == 1 {
				f.put(&c)
				if want == api.OK {
					want = f.e
				}
			}
		}
		if e := May(c); e != want {
			t.Errorf("May of faults %b: %v, not %v", which, e, want)
		}
	}
	if e := May(by(ins(own(1), 'a'), left(root, 'a'))); e != api.ErrNone {
		t.Errorf("an element that is not found, ahead of an operation that may not be: %v", e)
	}
	if e := May(by(ins(root, 'a'), left(root, 'a'), ins(own(3), 'a'))); e != api.ErrArg {
		t.Errorf("an operation that may not be, ahead of an element that is not found: %v", e)
	}
}

func TestP6_1May(t *testing.T) {
	for _, x := range []struct {
		c    api.Commit
		want api.Errno
	}{
		{api.Commit{}, api.ErrName},
		{by(), api.OK},
		{by(ins(root, 'a')), api.OK},
		{greatestCommit(), api.OK},

		{api.Commit{Author: "q", Parents: digs(1, 2, 3, 4, 5, 6, 7, 8)}, api.OK},
		{api.Commit{Author: "q", Parents: digs(1, 2, 3, 4, 5, 6, 7, 8, 9)}, api.ErrMany},
		{api.Commit{Author: "q", Parents: digs(0)}, api.OK},
		{api.Commit{Author: "q", Parents: digs(0, 0)}, api.ErrForm},
		{api.Commit{Author: "q", Parents: digs(1, 2, 2)}, api.ErrForm},
		{api.Commit{Author: "q", Parents: digs(2, 1)}, api.ErrForm},
		{api.Commit{Author: "q", Parents: digs(127, 128)}, api.OK},
		{api.Commit{Author: "q", Parents: digs(1, 2, 3, 4, 5, 6, 8, 7)}, api.ErrForm},
		{api.Commit{Author: "q", Parents: []api.Digest{{31: 1}, {31: 2}}}, api.OK},
		{api.Commit{Author: "q", Parents: []api.Digest{{31: 2}, {31: 1}}}, api.ErrForm},

		{api.Commit{Author: many("a", 24)}, api.OK},
		{api.Commit{Author: many("a", 25)}, api.ErrName},
		{api.Commit{Author: "a b"}, api.ErrName},
		{api.Commit{Author: "é"}, api.ErrName},
		{api.Commit{Author: "q", Note: many("n", 200)}, api.OK},
		{api.Commit{Author: "q", Note: many("n", 201)}, api.ErrLong},
		{api.Commit{Author: "q", Note: "\x00 \xff\n"}, api.OK},
		{by(slices.Repeat([]api.Op{ins(root, 'a')}, 2000)...), api.OK},
		{by(slices.Repeat([]api.Op{ins(root, 'a')}, 2001)...), api.ErrMany},
		{by(append(slices.Repeat([]api.Op{ins(root, 'a')}, 1999), ins(own(1999), 'b'))...), api.OK},
		{by(append(slices.Repeat([]api.Op{ins(root, 'a')}, 1999), ins(own(2000), 'b'))...), api.ErrNone},
		{by(append(slices.Repeat([]api.Op{ins(root, 'a')}, 1999), api.Op{})...), api.ErrArg},
	} {
		if e := May(x.c); e != x.want {
			t.Errorf("May(%s): %v, not %v", shown(x.c), e, x.want)
		}
	}
	for _, c := range append(someCommits(), someOthers()...) {
		if e, want := May(c), slowMay(c); e != want {
			t.Fatalf("May(%s): %v, not %v", shown(c), e, want)
		}
	}
}

func TestP6_2Encode(t *testing.T) {
	d := raw(dig(9, 8))
	for _, x := range []struct {
		c    api.Commit
		want string
	}{
		{by(ins(root, 'a')), "\x00\x01q\x00\x01\x00a"},
		{by(), "\x00\x01q\x00\x00"},
		{api.Commit{Author: "me", Note: "why"}, "\x00\x02me\x03why\x00"},
		{api.Commit{Author: "q", Parents: digs(3, 4)}, row("\x02", raw(dig(3)), raw(dig(4)), "\x01q\x00\x00")},
		{by(ins(root, 'a'), ins(own(1), 'b')), "\x00\x01q\x00\x02\x00a\x04\x01b"},
		{by(ins(root, 'a'), left(own(1), 'b')), "\x00\x01q\x00\x02\x00a\x06\x01b"},
		{by(ins(root, 'a'), del(own(1))), "\x00\x01q\x00\x02\x00a\x05\x01"},
		{by(ins(far(dig(9, 8), 1), 'b')), row("\x00\x01q\x00\x01\x08", d, "\x01b")},
		{by(left(far(dig(9, 8), 128), 'b')), row("\x00\x01q\x00\x01\x0a", d, "\x80\x01b")},
		{by(del(far(dig(9, 8), 2000))), row("\x00\x01q\x00\x01\x09", d, "\xd0\x0f")},
		{by(del(far(dig(), 1))), row("\x00\x01q\x00\x01\x09", raw(dig()), "\x01")},
		{api.Commit{Author: "q", Note: many("n", 200)}, "\x00\x01q\xc8\x01" + many("n", 200) + "\x00"},
		{by(slices.Repeat([]api.Op{ins(root, 'a')}, 2000)...), "\x00\x01q\x00\xd0\x0f" + many("\x00a", 2000)},
	} {
		if b := encoded(t, x.c); b != x.want {
			t.Errorf("Encode(%s): %.80q, not %.80q", shown(x.c), b, x.want)
		}
	}
	for _, c := range someCommits() {
		if b, want := encoded(t, c), slowBytes(c); b != want {
			t.Fatalf("Encode(%s): %.80q, not %.80q", shown(c), b, want)
		}
	}
	if n := len(encoded(t, greatestCommit())); n > api.MaxBytes {
		t.Errorf("the greatest commit has %d bytes", n)
	}
}

func TestP6_2ID(t *testing.T) {
	for _, c := range someCommits() {
		if d, e := ID(c); d != sha256.Sum256([]byte(slowBytes(c))) || e != api.OK {
			t.Fatalf("ID(%s): %x %v", shown(c), d, e)
		}
	}
	if d, _ := ID(by(ins(root, 'a'))); d != sha256.Sum256([]byte{0, 1, 113, 0, 1, 0, 97}) {
		t.Errorf("the digest of the document's example: %x", d)
	}
}

func TestP6_2MaysError(t *testing.T) {
	for _, c := range someOthers() {
		want := slowMay(c)
		b, e := Encode(c)
		if e != want || (e != api.OK) != (len(b) == 0) {
			t.Fatalf("Encode(%s): %.40q %v, not %v", shown(c), b, e, want)
		}
		d, e := ID(c)
		if e != want || (e != api.OK) != (d == api.Digest{}) {
			t.Fatalf("ID(%s): %x %v, not %v", shown(c), d, e, want)
		}
	}
}

func TestP6_2Same(t *testing.T) {
	full := func() api.Commit {
		return api.Commit{Parents: digs(1, 2), Author: "q", Note: "n", Ops: []api.Op{ins(root, 'a'), left(far(dig(1), 2), 'b')}}
	}
	if !Same(full(), full()) {
		t.Error("a commit is not the same as itself")
	}
	for i, turn := range []func(c *api.Commit){
		func(c *api.Commit) { c.Parents = c.Parents[:1] },
		func(c *api.Commit) { c.Parents = c.Parents[1:] },
		func(c *api.Commit) { c.Parents = nil },
		func(c *api.Commit) { c.Parents = digs(1, 2, 3) },
		func(c *api.Commit) { c.Parents = digs(2, 1) },
		func(c *api.Commit) { c.Parents[1][31] = 1 },
		func(c *api.Commit) { c.Author = "Q" },
		func(c *api.Commit) { c.Author = "" },
		func(c *api.Commit) { c.Note = "N" },
		func(c *api.Commit) { c.Note = "n\x00" },
		func(c *api.Commit) { c.Author, c.Note = "qn", "" },
		func(c *api.Commit) { c.Author, c.Note = c.Note, c.Author },
		func(c *api.Commit) { c.Ops = c.Ops[:1] },
		func(c *api.Commit) { c.Ops = nil },
		func(c *api.Commit) { c.Ops = append(c.Ops, ins(root, 'a')) },
		func(c *api.Commit) { c.Ops[0], c.Ops[1] = c.Ops[1], c.Ops[0] },
		func(c *api.Commit) { c.Ops[0].Kind = 3 },
		func(c *api.Commit) { c.Ops[1].Left = false },
		func(c *api.Commit) { c.Ops[1].Byte = 'c' },
		func(c *api.Commit) { c.Ops[1].At.Own = true },
		func(c *api.Commit) { c.Ops[1].At.Commit[31] = 1 },
		func(c *api.Commit) { c.Ops[1].At.N = 3 },
	} {
		c := full()
		turn(&c)
		if Same(c, full()) || Same(full(), c) {
			t.Errorf("the same, though %d was turned: %v", i, c)
		}
		if again := full(); !Same(c, c) || !Same(again, full()) {
			t.Errorf("a commit is not the same as itself: %v", c)
		}
	}
	if !Same(api.Commit{}, api.Commit{Parents: []api.Digest{}, Ops: []api.Op{}}) {
		t.Error("nil and empty do not mean the same")
	}
}

func TestP6_3Decode(t *testing.T) {
	d := raw(dig(9))
	full := "\x00\x01q\x00"
	most, above := many("a", 1<<17-9), many("a", 1<<17+1)
	for _, x := range []struct {
		b    string
		want api.Errno
	}{
		{"\x00\x01q\x00\x01\x00a", api.OK},
		{"\x00\x01q\x00\x00", api.OK},

		// All of it.
		{above, api.ErrLong},
		{"\x00\x01q\x00\x00" + above, api.ErrLong},
		{many("\xff", 1<<17+1), api.ErrLong},
		{many("\xff", 1<<17), api.ErrRange},
		{row("\x00\x00", text(most), "\x00\x00"), api.ErrForm},
		{row("\x00\x00", text(most), "\x00"), api.ErrName},
		{row("\x00\x01q", text(most), "\x00"), api.ErrLong},
		{row("\x00", text(most), "\x00\x00"), api.ErrName},

		// The parents.
		{"", api.ErrEnd},
		{"\x80", api.ErrEnd},
		{"\x80\x00", api.ErrForm},
		{many("\x81", 9), api.ErrRange},
		{"\x09", api.ErrMany},
		{num(math.MaxInt), api.ErrMany},
		{"\x09" + many(d, 9), api.ErrMany},
		{"\x08", api.ErrEnd},
		{"\x01" + d[:31], api.ErrEnd},
		{"\x01" + d, api.ErrEnd},
		{row("\x01", d, "\x01q\x00\x00"), api.OK},
		{row("\x02", d, "\x01q\x00\x00"), api.ErrEnd},
		{row("\x02", d, d, "\x01q\x00\x00"), api.ErrForm},
		{row("\x02", raw(dig(10)), d, "\x01q\x00\x00"), api.ErrForm},
		{row("\x02", d, raw(dig(10)), "\x01q\x00\x00"), api.OK},

		// Author and Note.
		{"\x00", api.ErrEnd},
		{"\x00\x80\x00", api.ErrForm},
		{"\x00" + many("\x80", 9), api.ErrRange},
		{"\x00" + num(1<<17+1), api.ErrLong},
		{"\x00" + num(1<<17), api.ErrEnd},
		{"\x00" + num(math.MaxInt), api.ErrLong},
		{"\x00\x02q", api.ErrEnd},
		{"\x00\x01q", api.ErrEnd},
		{"\x00\x01q\x80\x00", api.ErrForm},
		{"\x00\x01q" + num(1<<17+1), api.ErrLong},
		{"\x00\x01q\x01", api.ErrEnd},
		{"\x00\x00\x00\x00", api.ErrName},
		{"\x00\x01 \x00\x00", api.ErrName},
		{row("\x00", text(many("a", 25)), "\x00\x00"), api.ErrName},
		{row("\x00\x01q", text(many("a", 200)), "\x00"), api.OK},
		{row("\x00\x01q", text(many("a", 201)), "\x00"), api.ErrLong},

		// How many operations.
		{full, api.ErrEnd},
		{full + "\x80\x00", api.ErrForm},
		{full + many("\x80", 9), api.ErrRange},
		{full + num(2000) + many("\x00a", 2000), api.OK},
		{full + num(2001) + many("\x00a", 2001), api.ErrMany},
		{full + num(2001), api.ErrMany},
		{full + num(math.MaxInt), api.ErrMany},
		{full + num(2000), api.ErrEnd},
		{full + num(2000) + many("\x00a", 1999), api.ErrEnd},

		// An operation's first number.
		{full + "\x01", api.ErrEnd},
		{full + "\x01\x80", api.ErrEnd},
		{full + "\x01\x80\x00", api.ErrForm},
		{full + "\x01" + many("\xff", 9), api.ErrRange},
		{full + "\x01\x0c", api.ErrForm},
		{full + "\x01\x0c" + d + "\x01a", api.ErrForm},
		{full + "\x01\x10\x61", api.ErrForm},
		{full + "\x01" + num(1<<40), api.ErrForm},

		// Its Ref.
		{full + "\x01\x08" + d[:31], api.ErrEnd},
		{full + "\x01\x08" + d, api.ErrEnd},
		{full + "\x01\x08" + d + "\x80\x00", api.ErrForm},
		{full + "\x01\x08" + d + many("\x80", 9), api.ErrRange},
		{full + "\x01\x08" + d + "\x00a", api.ErrForm},
		{full + "\x01\x08" + d + "\x00", api.ErrForm},
		{full + "\x01\x08" + d + "\x01", api.ErrEnd},
		{full + "\x01\x08" + d + "\x01a", api.OK},
		{full + "\x01\x08" + d + num(2000) + "a", api.OK},
		{full + "\x01\x08" + d + num(2001) + "a", api.ErrArg},
		{full + "\x01\x08" + d + num(2001), api.ErrEnd},
		{full + "\x01\x08" + d + num(math.MaxInt) + "a", api.ErrArg},
		{full + "\x01\x09" + d + "\x01", api.OK},
		{full + "\x01\x09" + d + "\x00", api.ErrForm},
		{full + "\x01\x0a" + d + "\x01a", api.OK},
		{full + "\x01\x0b" + d + "\x01", api.ErrArg},
		{full + "\x01\x04", api.ErrEnd},
		{full + "\x01\x04\x00a", api.ErrForm},
		{full + "\x01\x04\x00", api.ErrForm},
		{full + "\x01\x04\x01", api.ErrEnd},
		{full + "\x01\x04\x01a", api.ErrNone},
		{full + "\x02\x00a\x04\x01b", api.OK},
		{full + "\x02\x00a\x04\x02b", api.ErrNone},
		{full + "\x02\x00a\x05\x01", api.OK},
		{full + "\x02\x00a\x06\x01b", api.OK},
		{full + "\x02\x00a\x07\x01", api.ErrArg},
		{full + "\x02\x00a\x04" + num(math.MaxInt) + "b", api.ErrNone},
		{full + "\x01\x01", api.ErrArg},
		{full + "\x01\x02a", api.ErrArg},
		{full + "\x01\x02", api.ErrEnd},
		{full + "\x01\x03", api.ErrArg},
		{full + "\x01\x00", api.ErrEnd},

		// What is behind, and then May's errors.
		{full + "\x00\x00", api.ErrForm},
		{full + "\x01\x00a\x00", api.ErrForm},
		{full + "\x01\x02a\x00", api.ErrForm},
		{full + "\x01\x04\x01a\x80", api.ErrForm},
		{"\x00\x00\x00\x00\x00", api.ErrForm},
		{row("\x02", d, d, "\x00\x00\x00"), api.ErrForm},
		{row("\x02", d, raw(dig(10)), "\x00", text(many("n", 201)), "\x01\x01"), api.ErrName},
		{row("\x00\x01q", text(many("n", 201)), "\x01\x01"), api.ErrLong},
		{full + "\x02\x01\x0c", api.ErrForm},
		{full + "\x02\x01\x00", api.ErrEnd},
	} {
		holdDecode(t, x.b)
		if _, e := Decode([]byte(x.b)); e != x.want {
			t.Errorf("Decode(%.80q): %v, not %v", x.b, e, x.want)
		}
	}
}

// TestP6_3EachSmallCommit holds Decode against the slow one, for all short rows of some bytes.
func TestP6_3EachSmallCommit(t *testing.T) {
	rows := []string{""}
	for range 6 {
		for _, s := range rows {
			holdDecode(t, s)
			holdDecode(t, "\x00\x01q\x00\x01"+s)
			holdDecode(t, "\x00\x01q\x00\x02\x00a"+s)
			holdDecode(t, "\x00\x01q\x00\x01\x08"+raw(dig(7))+s)
			holdDecode(t, "\x00\x01q\x00\x02\x09"+raw(dig(7))+s)
			holdDecode(t, "\x01"+raw(dig(7))+s)
		}
		var longer []string
		for _, s := range rows {
			for i := range 9 {
				longer = append(longer, s+"\x00\x01\x02\x04\x05\x08\x0cq\x80"[i:i+1])
			}
		}
		if len(rows) < 9000 {
			rows = longer
		}
	}
}

// TestP6_3TurnedCommits holds Decode against the slow one, for commits' bytes of which one is turned, is missing, or comes twice.
func TestP6_3TurnedCommits(t *testing.T) {
	var draw lot = 99
	for range 60 {
		b := encoded(t, draw.commit(12))
		for i := range b {
			for _, c := range []string{"\x00", "\x01", "\x02", "\x03", "\x07", "\x08", "\x09", "\x0c", "a", "\x80", "\xff"} {
				holdDecode(t, b[:i]+c+b[i+1:])
			}
			holdDecode(t, b[:i]+b[i+1:])
			holdDecode(t, b[:i+1]+b[i:])
		}
	}
}

func TestP6_4Refs(t *testing.T) {
	a, b, c := dig(1), dig(1, 1), dig(200)
	for _, x := range []struct {
		ops  []api.Op
		want []api.Digest
	}{
		{nil, nil},
		{[]api.Op{ins(root, 'a'), ins(own(1), 'b')}, nil},
		{[]api.Op{ins(far(a, 1), 'a')}, []api.Digest{a}},
		{[]api.Op{del(far(c, 1)), left(far(a, 2), 'a'), ins(far(b, 3), 'a')}, []api.Digest{a, b, c}},
		{[]api.Op{del(far(b, 1)), del(far(a, 2)), del(far(b, 1)), del(far(b, 2)), del(far(a, 1))}, []api.Digest{a, b}},
		{[]api.Op{del(far(dig(), 1))}, []api.Digest{{}}},
		{[]api.Op{del(far(api.Digest{31: 2}, 1)), del(far(api.Digest{31: 1}, 1)), del(far(dig(), 9))}, []api.Digest{{}, {31: 1}, {31: 2}}},

		// Only what is far counts.
		{[]api.Op{del(far(a, 2000)), del(far(b, 2001)), del(far(c, 0)), del(far(c, -1)), del(far(b, math.MaxInt))}, []api.Digest{a}},
		{[]api.Op{del(api.Ref{Own: true, Commit: a, N: 1}), del(api.Ref{Own: true, Commit: b})}, nil},

		// Any commit's operations do, also such as may not be.
		{[]api.Op{{At: far(a, 1)}, {Kind: 7, Left: true, At: far(b, 1)}, {Kind: api.Del, Left: true, Byte: 9, At: far(c, 1)}}, []api.Digest{a, b, c}},
	} {
		for _, whole := range []api.Commit{by(x.ops...), {Ops: x.ops}, {Parents: digs(9, 9, 9), Author: "a b", Ops: x.ops}} {
			if l := Refs(whole); !slices.Equal(l, x.want) {
				t.Errorf("Refs(%v): %v, not %v", whole, l, x.want)
			}
		}
	}
	for _, whole := range append(someCommits(), someOthers()...) {
		if l := Refs(whole); !slices.Equal(l, slowRefs(whole)) {
			t.Fatalf("Refs(%s): %v, not %v", shown(whole), l, slowRefs(whole))
		}
	}
}

// slowRefs is what P6.4 tells.
func slowRefs(c api.Commit) []api.Digest {
	there := map[string]bool{}
	for _, op := range c.Ops {
		if kindOf(op.At) == "far" {
			there[raw(op.At.Commit)] = true
		}
	}
	var texts []string
	for s := range there {
		texts = append(texts, s)
	}
	slices.Sort(texts)
	var l []api.Digest
	for _, s := range texts {
		l = append(l, dig([]byte(s)...))
	}
	return l
}

// TestP6_4ManyRefs has more commits, and more operations, than a commit that may be.
func TestP6_4ManyRefs(t *testing.T) {
	var c api.Commit
	var draw lot
	for range 60000 {
		c.Ops = append(c.Ops, del(far(dig(byte(draw.below(256)), byte(draw.below(200))), 1)))
	}
	if l := Refs(c); !slices.Equal(l, slowRefs(c)) {
		t.Errorf("%d Refs, not %d", len(l), len(slowRefs(c)))
	}
}

func TestP6_5DecodeOfEncode(t *testing.T) {
	for _, c := range someCommits() {
		b := encoded(t, c)
		back, e := Decode([]byte(b))
		if e != api.OK || !alike(back, c) || !Same(back, c) {
			t.Fatalf("Decode of Encode(%s): %s %v", shown(c), shown(back), e)
		}
		if again := encoded(t, back); again != b {
			t.Fatalf("%.80q is taken, and written as %.80q", b, again)
		}
	}
}

// TestP6_5WhatDecodeTakes is written as it stood, wherever it comes from.
func TestP6_5WhatDecodeTakes(t *testing.T) {
	taken := 0
	var draw lot = 5
	for range 4000 {
		b := []byte(encoded(t, draw.commit(6)))
		for range 1 + draw.below(3) {
			b[draw.below(len(b))] = byte(draw.below(14))
		}
		if c, e := Decode(b); e == api.OK {
			taken++
			if again := encoded(t, c); again != string(b) {
				t.Fatalf("%.80q is taken, and written as %.80q", b, again)
			}
		}
	}
	if taken < 400 {
		t.Errorf("but %d were taken", taken)
	}
}

func TestP6_6EndsTooEarly(t *testing.T) {
	for i, c := range someCommits() {
		b := encoded(t, c)
		for n := 0; n < len(b); n += 1 + len(b)/1500 {
			if d, e := Decode([]byte(b[:n])); e != api.ErrEnd || !isZero(d) {
				t.Fatalf("commit %d, of its %d bytes the first %d: %s %v", i, len(b), n, shown(d), e)
			}
		}
		if _, e := Decode([]byte(b[:len(b)-1])); e != api.ErrEnd {
			t.Fatalf("commit %d without its last byte: %v", i, e)
		}
	}
}

func TestP6_7UnlikeCommits(t *testing.T) {
	l := someCommits()
	texts := make([]string, len(l))
	for i, c := range l {
		texts[i] = encoded(t, c)
	}
	for i := range l {
		for k := range l {
			if (texts[i] == texts[k]) != alike(l[i], l[k]) || Same(l[i], l[k]) != alike(l[i], l[k]) {
				t.Fatalf("%s and %s: %.80q and %.80q", shown(l[i]), shown(l[k]), texts[i], texts[k])
			}
		}
	}
	// Single operations, all of which may be.
	seen := map[string]api.Op{}
	for _, op := range someOps() {
		c := by(ins(root, 'x'), ins(root, 'y'), op)
		if slowMay(c) != api.OK {
			continue
		}
		b := encoded(t, c)
		if other, ok := seen[b]; ok {
			t.Fatalf("%v and %v have the same bytes", other, op)
		}
		seen[b] = op
	}
}

func TestP1NoCallPanics(t *testing.T) {
	others := append(someOthers(), greatestCommit(), by())
	for i, c := range others {
		May(c)
		Encode(c)
		ID(c)
		Refs(c)
		Same(c, others[(i+1)%len(others)])
		Name(c.Author)
		Name(c.Note)
		for _, n := range []int{math.MinInt, -1, 0, 1, len(c.Ops), len(c.Ops) + 1, math.MaxInt} {
			Right(c.Ops, n)
		}
	}
	for _, x := range []string{"\x00", "\x01", "\x02", "\x08", "\x0b", "\x7f", "\x80", "\xff", "\x00\x01q\x00"} {
		for n := range 70 {
			holdDecode(t, many(x, n))
		}
		for _, n := range []int{1 << 16, 1<<17 - 1, 1 << 17, 1<<17 + 1, 1 << 21} {
			holdDecode(t, many(x, n/len(x)))
		}
	}
	holdDecode(t, row("\x00\x01q\x00", num(2000), many("\x08"+raw(dig(1))+"\x01a", 2000)))
	if c, e := Decode(nil); e != api.ErrEnd || !isZero(c) {
		t.Errorf("Decode(nil): %v %v", c, e)
	}
}

// roomy is a list with room behind it in which something stands.
func roomy[T any](l []T, room T) []T {
	more := append(slices.Clone(l), room, room, room)
	return more[:len(l)]
}

// TestP1ArgumentsAreNotTurned hands on lists with room behind them.
func TestP1ArgumentsAreNotTurned(t *testing.T) {
	for _, c := range append(someCommits(), someOthers()[:60]...) {
		given := c
		given.Parents, given.Ops = roomy(c.Parents, dig(77)), roomy(c.Ops, ins(own(9), 'r'))
		May(given)
		Right(given.Ops, len(given.Ops))
		Refs(given)
		Same(given, c)
		ID(given)
		b, _ := Encode(given)
		b = roomy(b, 'r')
		was := bytes.Clone(b[:len(b)+3])
		Decode(b)
		Decode(b[:len(b)/2])
		if !bytes.Equal(b[:len(b)+3], was) {
			t.Fatalf("bytes of %s were turned", shown(c))
		}
		parents, ops := given.Parents[:len(c.Parents)+3], given.Ops[:len(c.Ops)+3]
		if !alike(given, c) || slices.ContainsFunc(parents[len(c.Parents):], func(d api.Digest) bool { return d != dig(77) }) ||
			slices.ContainsFunc(ops[len(c.Ops):], func(op api.Op) bool { return op != ins(own(9), 'r') }) {
			t.Fatalf("%s was turned", shown(c))
		}
	}
}

// shareText tells whether two texts stand in the same memory. (Of one byte there is but one text in all of Go.)
func shareText(a, b string) bool {
	return len(a) > 1 && unsafe.StringData(a) == unsafe.StringData(b)
}

// TestP1WhatDecodeAnswersIsItsOwn turns the bytes that were handed in, and then an answer.
func TestP1WhatDecodeAnswersIsItsOwn(t *testing.T) {
	for _, c := range someCommits() {
		b := []byte(encoded(t, c))
		first, _ := Decode(b)
		second, _ := Decode(b)
		for i := range b {
			b[i] ^= 0xff
		}
		if !alike(first, c) {
			t.Fatalf("%s hangs on the bytes that it was read of", shown(c))
		}
		for i := range first.Parents {
			first.Parents[i] = dig(9, 9)
		}
		for i := range first.Ops {
			first.Ops[i] = api.Op{}
		}
		if !alike(second, c) {
			t.Fatalf("%s hangs on another answer", shown(c))
		}
		if shareText(first.Note, second.Note) || shareText(first.Author, second.Author) {
			t.Fatalf("%s shares its texts with another answer", shown(c))
		}
	}
}

// TestP1WhatIsWrittenIsItsOwn turns answers of Encode and Refs, with the room behind them.
func TestP1WhatIsWrittenIsItsOwn(t *testing.T) {
	for _, c := range someCommits() {
		b, _ := Encode(c)
		again, _ := Encode(c)
		l, lAgain := Refs(c), Refs(c)
		want, wantRefs := slowBytes(c), slowRefs(c)
		for i := range b[:cap(b)] {
			b[:cap(b)][i] = 0xee
		}
		for i := range l[:cap(l)] {
			l[:cap(l)][i] = dig(0xee)
		}
		if string(again) != want || !slices.Equal(lAgain, wantRefs) || encoded(t, c) != want || !slices.Equal(Refs(c), wantRefs) {
			t.Fatalf("an answer of %s hangs on another one", shown(c))
		}
	}
}

// TestP1NilAndEmpty mean the same.
func TestP1NilAndEmpty(t *testing.T) {
	bare, empty := api.Commit{Author: "q"}, api.Commit{Parents: []api.Digest{}, Author: "q", Ops: []api.Op{}}
	if encoded(t, bare) != encoded(t, empty) || !Same(bare, empty) || len(Refs(empty)) != 0 || May(empty) != api.OK {
		t.Error("of a commit nil and empty do not mean the same")
	}
	if _, e := Decode([]byte{}); e != api.ErrEnd {
		t.Errorf("Decode of no bytes: %v", e)
	}
	if e := Right([]api.Op{}, 1); e != api.ErrRange {
		t.Errorf("Right of no operations: %v", e)
	}
}

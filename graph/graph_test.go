package graph

import (
	"bytes"
	"fmt"
	"math/bits"
	"slices"
	"strings"
	"testing"

	"recension/api"
)

// lot draws numbers of which each one hangs on the one ahead of it.
type lot uint32

// below is one from 0 on, below n.
func (l *lot) below(n int) int {
	*l = *l*1664525 + 1013904223
	return int(*l>>8) % n
}

// some are so many of a list, drawn one by one, so that one may come twice.
func (l *lot) some(of []api.Digest, n int) []api.Digest {
	var ids []api.Digest
	for range n {
		ids = append(ids, of[l.below(len(of))])
	}
	return ids
}

// dig is a digest that begins with some bytes, and has noughts behind them.
func dig(b ...byte) (d api.Digest) {
	copy(d[:], b)
	return d
}

// digs are digests that begin with these bytes.
func digs(first ...byte) []api.Digest {
	var l []api.Digest
	for _, x := range first {
		l = append(l, dig(x))
	}
	return l
}

// compare holds digests against each other byte by byte.
func compare(a, b api.Digest) int { return bytes.Compare(a[:], b[:]) }

// risen are digests, each once, as they rise.
func risen(l []api.Digest) []api.Digest {
	l = slices.Clone(l)
	slices.SortFunc(l, compare)
	return slices.Compact(l)
}

// node has parents as they rise.
func node(id api.Digest, parents ...api.Digest) api.Node {
	return api.Node{ID: id, Parents: risen(parents)}
}

// idsOf are the IDs of a list's nodes.
func idsOf(l []api.Node) []api.Digest {
	var ids []api.Digest
	for _, x := range l {
		ids = append(ids, x.ID)
	}
	return ids
}

// shown is a text of something, cut where it is long.
func shown(x any) string {
	s := fmt.Sprint(x)
	return s[:min(len(s), 300)]
}

// names tells digests by their first two bytes.
func names(l []api.Digest) string {
	var s []string
	for _, d := range l {
		s = append(s, fmt.Sprintf("%x", d[:2]))
	}
	return "[" + shown(strings.Join(s, " ")) + "]"
}

// told tells a list of nodes.
func told(l []api.Node) string {
	var s strings.Builder
	for _, x := range l {
		fmt.Fprintf(&s, "%x of %s; ", x.ID[:2], names(x.Parents))
	}
	return shown(s.String())
}

// The example of the chapter: a, b and c of a, d of b and c.
func example() ([]api.Node, []api.Digest) {
	d := digs(1, 2, 3, 4)
	return []api.Node{node(d[0]), node(d[1], d[0]), node(d[2], d[0]), node(d[3], d[1], d[2])}, d
}

// shape is a list of n nodes, of which each has the parents ahead of it that its bits tell.
func shape(ids []api.Digest, n, shape int) []api.Node {
	var l []api.Node
	for i := range n {
		x := api.Node{ID: ids[i]}
		for j := range i {
			if shape&1 == 1 {
				x.Parents = append(x.Parents, ids[j])
			}
			shape >>= 1
		}
		l = append(l, node(x.ID, x.Parents...))
	}
	return l
}

// turns are all orders in which n things may stand.
func turns(n int) [][]int {
	if n == 0 {
		return [][]int{nil}
	}
	var l [][]int
	for _, ahead := range turns(n - 1) {
		for at := range n {
			l = append(l, slices.Insert(slices.Clone(ahead), at, n-1))
		}
	}
	return l
}

// smallLists are all of at most three nodes, and all of four nodes of some orders, in all shapes that may be.
func smallLists() [][]api.Node {
	var lists [][]api.Node
	for n := range 5 {
		for at, turn := range turns(n) {
			if n == 4 && at%5 > 0 {
				continue
			}
			var ids []api.Digest
			for _, x := range turn {
				ids = append(ids, dig(byte(x)))
			}
			for bits := range 1 << (n * (n - 1) / 2) {
				lists = append(lists, shape(ids, n, bits))
			}
		}
	}
	return lists
}

// list is one of n nodes that may be; each has at most so many parents, of the last so many ones ahead.
func (l *lot) list(n, parents, near int) []api.Node {
	var list []api.Node
	for i := range n {
		id := api.Digest{byte(l.below(256)), byte(i), 31: byte(l.below(256))}
		x := api.Node{ID: id}
		for range min(i, l.below(parents+1)) {
			x.Parents = append(x.Parents, list[max(0, i-1-l.below(near))].ID)
		}
		list = append(list, node(x.ID, x.Parents...))
	}
	return list
}

// chain is a list of n nodes, each one of the one ahead, whose digests rise or fall.
func chain(n int, rise bool) []api.Node {
	var l []api.Node
	for i := range n {
		x := api.Node{ID: dig(byte(i))}
		if !rise {
			x.ID = dig(byte(255 - i))
		}
		if i > 0 {
			x.Parents = []api.Digest{l[i-1].ID}
		}
		l = append(l, x)
	}
	return l
}

// greatest is at all limits at once: 200 nodes, of which all but the first ones have 8 parents.
func greatest() []api.Node {
	var l []api.Node
	for i := range 200 {
		var parents []api.Digest
		for j := max(0, i-8); j < i; j++ {
			parents = append(parents, l[j].ID)
		}
		l = append(l, node(dig(byte(i*77), byte(i)), parents...))
	}
	return l
}

// greatLists are of many nodes.
func greatLists() [][]api.Node {
	lists := [][]api.Node{chain(200, true), chain(200, false), greatest()}
	var draw lot
	for i := range 60 {
		n := 5 + i*13%196
		lists = append(lists, draw.list(n, 1+i%8, 1+i*5%n))
	}
	return lists
}

// slow answers by the words of the chapter.
type slow struct {
	l      []api.Node
	stands [][]bool
	at     map[api.Digest]int
}

// slowly is what a list that may be tells.
func slowly(l []api.Node) *slow {
	s := &slow{l: l, at: map[api.Digest]int{}}
	for i, x := range l {
		s.at[x.ID] = i
		row := make([]bool, len(l))
		row[i] = true
		for _, p := range x.Parents {
			for j, is := range s.stands[s.at[p]] {
				row[j] = row[j] || is
			}
		}
		s.stands = append(s.stands, row)
	}
	return s
}

// over tells whether one of some stands above an ID.
func (s *slow) over(some []api.Digest, id api.Digest) bool {
	return slices.ContainsFunc(some, func(x api.Digest) bool { return s.stands[s.at[x]][s.at[id]] })
}

// reach are all that one of some stands above.
func (s *slow) reach(some, _ []api.Digest) []api.Digest {
	var l []api.Digest
	for _, x := range s.l {
		if s.over(some, x.ID) {
			l = append(l, x.ID)
		}
	}
	return risen(l)
}

// tops are those of some that no other one of them stands above.
func (s *slow) tops(some, _ []api.Digest) []api.Digest {
	some = risen(some)
	var l []api.Digest
	for i, x := range some {
		others := slices.Delete(slices.Clone(some), i, i+1)
		if !s.over(others, x) {
			l = append(l, x)
		}
	}
	return l
}

// shared are the heads of what one of each stands above.
func (s *slow) shared(a, b []api.Digest) []api.Digest {
	l := s.reach(a, nil)
	return s.tops(slices.DeleteFunc(l, func(x api.Digest) bool { return !s.over(b, x) }), nil)
}

// within tells whether one of b stands above each of a.
func (s *slow) within(a, b []api.Digest) bool {
	return !slices.ContainsFunc(a, func(x api.Digest) bool { return !s.over(b, x) })
}

// row are those that one of some stands above: again and again the least one whose parents have come.
func (s *slow) row(some, _ []api.Digest) []api.Digest {
	rest := s.reach(some, nil)
	var l []api.Digest
	for len(l) < len(rest) {
		for _, x := range rest {
			waits := slices.ContainsFunc(s.l[s.at[x]].Parents, func(p api.Digest) bool { return !slices.Contains(l, p) })
			if !waits && !slices.Contains(l, x) {
				l = append(l, x)
				break
			}
		}
	}
	return l
}

// lacking are those of the row of want that none of have stand above.
func (s *slow) lacking(want, have []api.Digest) []api.Digest {
	return slices.DeleteFunc(s.row(want, nil), func(x api.Digest) bool { return s.over(have, x) })
}

// call is one of those that answer a list.
type call struct {
	name string
	do   func(l []api.Node, a, b []api.Digest) ([]api.Digest, api.Errno)
	slow func(s *slow, a, b []api.Digest) []api.Digest
	two  bool // whether it takes two lists
}

func calls() []call {
	one := func(f func([]api.Node, []api.Digest) ([]api.Digest, api.Errno)) func(l []api.Node, a, b []api.Digest) ([]api.Digest, api.Errno) {
		return func(l []api.Node, a, _ []api.Digest) ([]api.Digest, api.Errno) { return f(l, a) }
	}
	return []call{
		{"Above", one(Above), (*slow).reach, false},
		{"Heads", one(Heads), (*slow).tops, false},
		{"Common", Common, (*slow).shared, true},
		{"Order", one(Order), (*slow).row, false},
		{"Lacks", Lacks, (*slow).lacking, true},
	}
}

// holds fails if a call of that name answers otherwise than by the words of the chapter.
func holds(t *testing.T, name string) {
	t.Helper()
	c := calls()[slices.IndexFunc(calls(), func(c call) bool { return c.name == name })]
	try := func(s *slow, a, b []api.Digest) {
		t.Helper()
		want := c.slow(s, a, b)
		if got, e := c.do(s.l, a, b); e != api.OK || !slices.Equal(got, want) {
			t.Fatalf("%s of %s, %s in %s: %s, %d, not %s", name, names(a), names(b), told(s.l), names(got), e, names(want))
		}
	}
	each(c.two, try)
}

// each goes over lists that may be, and IDs of them: all there are of small lists.
func each(two bool, try func(s *slow, a, b []api.Digest)) {
	for _, l := range smallLists() {
		s, all := slowly(l), subsets(idsOf(l))
		for _, a := range all {
			others := all
			if !two {
				others = [][]api.Digest{nil}
			}
			for _, b := range others {
				try(s, a, b)
			}
		}
	}
	var draw lot
	for _, l := range greatLists() {
		s, ids := slowly(l), idsOf(l)
		for i := range 12 {
			try(s, draw.some(ids, i), draw.some(ids, draw.below(6)))
		}
		try(s, ids, ids)
		try(s, ids[len(ids)-1:], ids[len(ids)/2:][:1])
		try(s, slices.Repeat(ids[len(ids)-1:], 5), slices.Concat(ids, ids))
	}
}

// subsets are all lists of some IDs, falling ones and some of which one comes twice among them.
func subsets(ids []api.Digest) [][]api.Digest {
	var all [][]api.Digest
	for set := range 1 << len(ids) {
		var l []api.Digest
		for i, id := range ids {
			if set>>i&1 == 1 {
				l = append(l, id)
			}
		}
		if bits.OnesCount(uint(set))%2 == 0 {
			slices.Reverse(l)
		}
		if len(l) > 0 && set%3 == 0 {
			l = append(l, l[0])
		}
		all = append(all, l)
	}
	return all
}

// slowCheck is what P7.1 tells.
func slowCheck(l []api.Node) (int, api.Errno) {
	if len(l) > 200 {
		return 0, api.ErrMany
	}
	for i, x := range l {
		if len(x.Parents) > 8 {
			return i, api.ErrMany
		}
		if !slices.Equal(x.Parents, risen(x.Parents)) {
			return i, api.ErrForm
		}
		ahead := idsOf(l[:i])
		if slices.Contains(ahead, x.ID) {
			return i, api.ErrThere
		}
		for _, p := range x.Parents {
			if !slices.Contains(ahead, p) {
				return i, api.ErrNone
			}
		}
	}
	return 0, api.OK
}

// checks fails if Check answers otherwise.
func checks(t *testing.T, l []api.Node, at int, e api.Errno) {
	t.Helper()
	if gotAt, got := Check(l); gotAt != at || got != e {
		t.Fatalf("Check of %d nodes, %s: %d, %d, not %d, %d", len(l), told(l), gotAt, got, at, e)
	}
}

func TestP7_1Check(t *testing.T) {
	l, d := example()
	checks(t, nil, 0, api.OK)
	checks(t, []api.Node{}, 0, api.OK)
	checks(t, l, 0, api.OK)
	checks(t, l[1:], 0, api.ErrNone)
	checks(t, []api.Node{l[0], l[1], l[3]}, 2, api.ErrNone)
	checks(t, []api.Node{l[0], l[1], l[0]}, 2, api.ErrThere)
	checks(t, []api.Node{{ID: d[0], Parents: d[:1]}}, 0, api.ErrNone)
	checks(t, []api.Node{{}}, 0, api.OK)
	checks(t, []api.Node{l[0], {ID: d[1], Parents: []api.Digest{d[0], d[0]}}}, 1, api.ErrForm)
	checks(t, []api.Node{l[0], l[1], {ID: d[2], Parents: []api.Digest{d[1], d[0]}}}, 2, api.ErrForm)
	for _, l := range slices.Concat(smallLists(), greatLists()) {
		checks(t, l, 0, api.OK)
	}
}

// TestP7_1Small checks all lists of at most three nodes whose IDs are of three, with at most two parents of these.
func TestP7_1Small(t *testing.T) {
	ids := digs(0, 1, 2)
	parents := [][]api.Digest{nil}
	for _, p := range ids {
		parents = append(parents, []api.Digest{p})
		for _, q := range ids {
			parents = append(parents, []api.Digest{p, q})
		}
	}
	var nodes []api.Node
	for _, id := range ids {
		for _, l := range parents {
			nodes = append(nodes, api.Node{ID: id, Parents: l})
		}
	}
	for _, x := range nodes {
		for _, y := range nodes {
			for _, z := range nodes {
				l := []api.Node{x, y, z}
				at, e := slowCheck(l)
				checks(t, l, at, e)
			}
		}
	}
}

func TestP7_1Limits(t *testing.T) {
	long := append(chain(200, true), node(dig(250)))
	checks(t, long[:200], 0, api.OK)
	checks(t, long, 0, api.ErrMany)
	long[0].Parents = make([]api.Digest, 9)
	checks(t, long, 0, api.ErrMany)
	checks(t, long[:200], 0, api.ErrMany)
	checks(t, make([]api.Node, 1<<20), 0, api.ErrMany)
	var l []api.Node
	for i := range 9 {
		l = append(l, node(dig(byte(i))))
	}
	l = append(l, node(dig(10), idsOf(l)[:8]...))
	checks(t, l, 0, api.OK)
	checks(t, append(l, node(dig(11), idsOf(l)[:9]...)), 10, api.ErrMany)
	checks(t, append(l, node(dig(11), idsOf(l)[2:]...)), 0, api.OK)
	// The errors of one node, the first named ahead: too many, do not rise, there already, none.
	fallen := make([]api.Digest, 9)
	checks(t, append(l, api.Node{ID: dig(1), Parents: fallen}), 10, api.ErrMany)
	checks(t, append(l, api.Node{ID: dig(1), Parents: fallen[:8]}), 10, api.ErrForm)
	checks(t, append(l, api.Node{ID: dig(11), Parents: digs(99, 98)}), 10, api.ErrForm)
	checks(t, append(l, api.Node{ID: dig(1), Parents: digs(98, 99)}), 10, api.ErrThere)
	checks(t, append(l, api.Node{ID: dig(11), Parents: digs(1, 99)}), 10, api.ErrNone)
	checks(t, append(l, api.Node{ID: dig(11), Parents: digs(1, 11)}), 10, api.ErrNone)
	// The first node that may not be tells, whatever is behind it.
	checks(t, append(l, node(dig(11), dig(99)), node(dig(12), make([]api.Digest, 9)...)), 10, api.ErrNone)
	checks(t, append(l, node(dig(11)), node(dig(11)), node(dig(12), dig(99))), 11, api.ErrThere)
	checks(t, append(chain(199, true), node(dig(198))), 199, api.ErrThere)
	// A parent's ID may stand behind: it is still none of those ahead.
	checks(t, []api.Node{node(dig(1), dig(2)), node(dig(2))}, 0, api.ErrNone)
}

func TestP7_Errors(t *testing.T) {
	l, d := example()
	none := dig(9)
	bad := []struct {
		l []api.Node
		e api.Errno
	}{
		{chain(201, true), api.ErrMany},
		{append(chain(9, true), api.Node{ID: dig(99), Parents: digs(0, 1, 2, 3, 4, 5, 6, 7, 8)}), api.ErrMany},
		{append(slices.Clone(l), api.Node{ID: none, Parents: []api.Digest{d[1], d[0]}}), api.ErrForm},
		{append(slices.Clone(l), l[0]), api.ErrThere},
		{append(slices.Clone(l), node(none, dig(8))), api.ErrNone},
		{l[1:], api.ErrNone},
	}
	lists := [][]api.Digest{nil, {}, d[:1], d, {none}, {d[0], none}, {none, d[0]}, {{}}}
	for _, a := range lists {
		for _, b := range lists {
			hasA, hasB := slices.ContainsFunc(a, func(x api.Digest) bool { return !slices.Contains(d, x) }), slices.ContainsFunc(b, func(x api.Digest) bool { return !slices.Contains(d, x) })
			for _, c := range calls() {
				for _, x := range bad {
					if got, e := c.do(x.l, a, b); len(got) != 0 || e != x.e {
						t.Errorf("%s of %s, %s in %s: %s, %d, not %d", c.name, names(a), names(b), told(x.l), names(got), e, x.e)
					}
				}
				if got, e := c.do(l, a, b); (hasA || hasB && c.two) != (e == api.ErrNone) || e != api.OK && len(got) != 0 || e != api.OK && e != api.ErrNone {
					t.Errorf("%s of %s, %s: %s, %d", c.name, names(a), names(b), names(got), e)
				}
			}
			for _, x := range bad {
				if got, e := Within(x.l, a, b); got || e != x.e {
					t.Errorf("Within of %s, %s in %s: %t, %d, not %d", names(a), names(b), told(x.l), got, e, x.e)
				}
			}
			if got, e := Within(l, a, b); (hasA || hasB) != (e == api.ErrNone) || e != api.OK && got || e != api.OK && e != api.ErrNone {
				t.Errorf("Within of %s, %s: %t, %d", names(a), names(b), got, e)
			}
		}
	}
	for _, c := range calls() {
		if got, e := c.do(nil, []api.Digest{{}}, nil); len(got) != 0 || e != api.ErrNone {
			t.Errorf("%s of an ID in no nodes: %s, %d", c.name, names(got), e)
		}
	}
}

// tells fails if a list, answered without an error, is another one.
func tells(t *testing.T, what string, got []api.Digest, e api.Errno, want ...api.Digest) {
	t.Helper()
	if e != api.OK || !slices.Equal(got, want) {
		t.Errorf("%s: %s, %d, not %s", what, names(got), e, names(want))
	}
}

func TestP7_2Above(t *testing.T) {
	l, d := example()
	got, e := Above(l, d[3:])
	tells(t, "Above of d", got, e, d...)
	got, e = Above(l, []api.Digest{d[2], d[1], d[2]})
	tells(t, "Above of c, b, c", got, e, d[0], d[1], d[2])
	got, e = Above(l, nil)
	tells(t, "Above of none", got, e)
	holds(t, "Above")
}

// TestP7_2LeftAndBegunAgain leaves a going over at each of its places, and begins it, and another one, again.
func TestP7_2LeftAndBegunAgain(t *testing.T) {
	l := greatest()
	g, at, e := read(l)
	if e != api.OK {
		t.Fatal(at, e)
	}
	going, other := g.above([]int{150, 3}), g.above([]int{7})
	for left := range 151 {
		var met []int
		for n := range going {
			met = append(met, n)
			if len(met) > left {
				break
			}
		}
		for i, n := range met {
			if n != 150-i {
				t.Fatalf("left at %d: %d at %d", left, n, i)
			}
		}
		count := 0
		for n := range other {
			if count++; n > 7 {
				t.Fatalf("begun behind one that was left at %d: %d", left, n)
			}
		}
		if len(met) != left+1 || count != 8 {
			t.Fatalf("left at %d: %d, and then %d", left, len(met), count)
		}
	}
}

func TestP7_3Heads(t *testing.T) {
	l, d := example()
	got, e := Heads(l, d[:3])
	tells(t, "Heads of a, b and c", got, e, d[1], d[2])
	got, e = Heads(l, []api.Digest{d[0], d[3], d[0]})
	tells(t, "Heads of a, d, a", got, e, d[3])
	holds(t, "Heads")
}

func TestP7_4Common(t *testing.T) {
	l, d := example()
	got, e := Common(l, d[1:2], d[2:3])
	tells(t, "Common of b and c", got, e, d[0])
	got, e = Common(l, d[3:], d[1:3])
	tells(t, "Common of d, and of b and c", got, e, d[1], d[2])
	got, e = Common(l, d, nil)
	tells(t, "Common of all and none", got, e)
	holds(t, "Common")
}

func TestP7_5Within(t *testing.T) {
	l, d := example()
	if is, e := Within(l, d[:1], d[3:]); !is || e != api.OK {
		t.Errorf("Within of a, d: %t, %d", is, e)
	}
	each(true, func(s *slow, a, b []api.Digest) {
		if got, e := Within(s.l, a, b); e != api.OK || got != s.within(a, b) {
			t.Fatalf("Within of %s, %s in %s: %t, %d", names(a), names(b), told(s.l), got, e)
		}
	})
}

func TestP7_6Order(t *testing.T) {
	l, d := example()
	got, e := Order(l, d[3:])
	tells(t, "Order of d", got, e, d...)
	// c is the least one, but comes last; a and b do not wait for each other.
	l = []api.Node{node(d[2]), node(d[1]), node(d[0], d[2])}
	got, e = Order(l, d[:3])
	tells(t, "Order of all", got, e, d[1], d[2], d[0])
	holds(t, "Order")
}

func TestP7_7Lacks(t *testing.T) {
	l, d := example()
	got, e := Lacks(l, d[3:], d[1:2])
	tells(t, "Lacks of d without b", got, e, d[2], d[3])
	got, e = Lacks(l, d[1:2], d[3:])
	tells(t, "Lacks of b without d", got, e)
	holds(t, "Lacks")
}

// heads are those that Heads answers.
func heads(t *testing.T, l []api.Node, ids ...[]api.Digest) []api.Digest {
	t.Helper()
	got, e := Heads(l, slices.Concat(ids...))
	if e != api.OK {
		t.Fatalf("Heads of %s in %s: %d", names(slices.Concat(ids...)), told(l), e)
	}
	return got
}

// within is what Within answers.
func within(t *testing.T, l []api.Node, a, b []api.Digest) bool {
	t.Helper()
	is, e := Within(l, a, b)
	if e != api.OK {
		t.Fatalf("Within of %s, %s in %s: %d", names(a), names(b), told(l), e)
	}
	return is
}

// threes goes over lists that may be, and three lists of their IDs.
func threes(try func(l []api.Node, a, b, c []api.Digest)) {
	var draw lot
	for _, l := range slices.Concat(smallLists(), greatLists()) {
		if len(l) == 0 {
			try(l, nil, nil, nil)
			continue
		}
		for range 10 {
			ids := idsOf(l)
			try(l, draw.some(ids, draw.below(4)), draw.some(ids, draw.below(4)), draw.some(ids, draw.below(4)))
		}
	}
}

func TestP7_8Together(t *testing.T) {
	threes(func(l []api.Node, a, b, c []api.Digest) {
		if !slices.Equal(heads(t, l, a, b), heads(t, l, b, a)) {
			t.Fatalf("the heads of %s and %s in %s hang on which come first", names(a), names(b), told(l))
		}
		ab, bc := heads(t, l, a, b), heads(t, l, b, c)
		if all := heads(t, l, a, b, c); !slices.Equal(heads(t, l, ab, c), all) || !slices.Equal(heads(t, l, a, bc), all) {
			t.Fatalf("the heads of %s, %s and %s in %s hang on which are taken first", names(a), names(b), names(c), told(l))
		}
		if !slices.Equal(heads(t, l, a, a), heads(t, l, a)) || !slices.Equal(heads(t, l, ab, ab), ab) {
			t.Fatalf("the heads of %s twice in %s are others", names(a), told(l))
		}
	})
}

func TestP7_9WithinGoesOn(t *testing.T) {
	threes(func(l []api.Node, a, b, c []api.Digest) {
		if within(t, l, a, b) && within(t, l, b, c) && !within(t, l, a, c) {
			t.Fatalf("%s in %s in %s do not go on in %s", names(a), names(b), names(c), told(l))
		}
		a, b = heads(t, l, a), heads(t, l, b)
		if (within(t, l, a, b) && within(t, l, b, a)) != slices.Equal(a, b) {
			t.Fatalf("%s and %s lie within one another, but are not the same, in %s", names(a), names(b), told(l))
		}
		if !within(t, l, a, a) {
			t.Fatalf("%s does not lie within itself in %s", names(a), told(l))
		}
	})
}

func TestP7_10CommonWithin(t *testing.T) {
	threes(func(l []api.Node, a, b, c []api.Digest) {
		both, e := Common(l, a, b)
		if e != api.OK || !within(t, l, both, a) || !within(t, l, both, b) {
			t.Fatalf("Common of %s and %s in %s: %s, %d lies not within both", names(a), names(b), told(l), names(both), e)
		}
		if (within(t, l, c, a) && within(t, l, c, b)) != within(t, l, c, both) {
			t.Fatalf("%s lies within %s and %s, but not within Common in %s", names(c), names(a), names(b), told(l))
		}
	})
}

func TestP7_11Behind(t *testing.T) {
	threes(func(l []api.Node, a, b, c []api.Digest) {
		row, e := Order(l, slices.Concat(a, b, c))
		if e != api.OK {
			t.Fatal(e)
		}
		for i, id := range row {
			parents := l[slices.Index(idsOf(l), id)].Parents
			if slices.Contains(row[:i], id) || slices.ContainsFunc(parents, func(p api.Digest) bool { return !slices.Contains(row[:i], p) }) {
				t.Fatalf("Order in %s: %s: the place %d", told(l), names(row), i)
			}
		}
	})
}

// all are all calls' answers, told.
func all(l []api.Node, a, b []api.Digest) string {
	var s strings.Builder
	for _, c := range calls() {
		got, e := c.do(l, a, b)
		fmt.Fprintln(&s, c.name, got, e)
	}
	is, e := Within(l, a, b)
	fmt.Fprintln(&s, is, e)
	return s.String()
}

// turned is a list in another order that may be.
func (l *lot) turned(list []api.Node) []api.Node {
	rest := slices.Clone(list)
	var out []api.Node
	for len(rest) > 0 {
		i := l.below(len(rest))
		if slices.ContainsFunc(rest[i].Parents, func(p api.Digest) bool { return slices.Contains(idsOf(rest), p) }) {
			continue
		}
		out = append(out, rest[i])
		rest = slices.Delete(rest, i, i+1)
	}
	return out
}

func TestP7_12ListOrder(t *testing.T) {
	var draw lot
	for i, l := range slices.Concat(smallLists(), greatLists()) {
		if len(l) == 0 || len(l) > 100 || len(l) == 4 && i%4 > 0 {
			continue
		}
		for range 4 {
			a, b := draw.some(idsOf(l), draw.below(5)), draw.some(idsOf(l), draw.below(5))
			other := draw.turned(l)
			if all(l, a, b) != all(other, a, b) {
				t.Fatalf("%s, %s: %s in %s, but %s in %s", names(a), names(b), shown(all(l, a, b)), told(l), shown(all(other, a, b)), told(other))
			}
		}
	}
}

func TestP7_13OneMore(t *testing.T) {
	var draw lot
	for i, l := range slices.Concat(smallLists(), greatLists()) {
		if len(l) == 0 || len(l) == 200 || len(l) == 4 && i%4 > 0 {
			continue
		}
		a, b := draw.some(idsOf(l), draw.below(5)), draw.some(idsOf(l), draw.below(5))
		want := all(l, a, b)
		for _, id := range []api.Digest{{31: 7}, {128, 255}, {255, 255}} {
			more := append(slices.Clone(l), node(id, draw.some(idsOf(l), draw.below(9))...))
			if got := all(more, a, b); got != want {
				t.Fatalf("%s, %s: %s in %s, but %s with one more, %s", names(a), names(b), shown(want), told(l), shown(got), told(more[len(l):]))
			}
		}
	}
}

// behind are a list's things, and others in the room behind it.
func behind[T any](l []T, others ...T) []T {
	return append(slices.Clone(l), others...)[:len(l)]
}

func TestP1ArgumentsStay(t *testing.T) {
	var draw lot
	for _, l := range slices.Concat(greatLists(), [][]api.Node{chain(201, true), {{ID: dig(1), Parents: digs(2, 1)}}, {{ID: dig(1), Parents: digs(2)}}}) {
		for i := range l {
			l[i].Parents = behind(l[i].Parents, dig(77), dig(78))
		}
		list := behind(l, node(dig(77), dig(78)))
		a, b := behind(draw.some(idsOf(l), draw.below(9)), dig(77), dig(78)), behind(draw.some(idsOf(l), draw.below(9)), dig(79))
		tell := func() string {
			var s strings.Builder
			for _, x := range list[:cap(list)] {
				fmt.Fprintln(&s, x.ID, x.Parents[:cap(x.Parents)])
			}
			fmt.Fprintln(&s, a[:cap(a)], b[:cap(b)], list)
			return s.String()
		}
		ahead := tell()
		first := all(list, a, b)
		at, e := Check(list)
		if tell() != ahead {
			t.Fatalf("what was handed in is changed: %s", told(l))
		}
		if againAt, again := Check(list); all(list, a, b) != first || at != againAt || e != again {
			t.Fatalf("the same call answers otherwise: %s", told(l))
		}
	}
}

func TestP1AnswersAreNew(t *testing.T) {
	l, d := example()
	for _, c := range calls() {
		a, b := slices.Clone(d), []api.Digest{d[1]}
		first, _ := c.do(l, a, b)
		want := slices.Clone(first)
		second, _ := c.do(l, a, b)
		for _, x := range [][]api.Digest{second[:cap(second)], a, b} {
			for i := range x {
				x[i] = dig(99)
			}
		}
		if !slices.Equal(first, want) {
			t.Errorf("%s: an answer shares memory", c.name)
		}
		if again, e := c.do(l, d, []api.Digest{d[1]}); e != api.OK || !slices.Equal(again, want) {
			t.Errorf("%s: what is answered is kept", c.name)
		}
		for i := range l {
			if want, _ := example(); l[i].ID != want[i].ID || !slices.Equal(l[i].Parents, want[i].Parents) {
				t.Errorf("%s: an answer shares memory with the nodes", c.name)
			}
		}
	}
}

func TestP1NilIsEmpty(t *testing.T) {
	l, d := example()
	empty := []api.Digest{}
	full := slices.Clone(l)
	full[0].Parents = empty
	for _, a := range [][]api.Digest{nil, empty, d[1:2]} {
		for _, b := range [][]api.Digest{nil, empty, d[1:2]} {
			if all(l, a, b) != all(full, a, b) {
				t.Errorf("%s, %s: no parents and nil parents do not mean the same", names(a), names(b))
			}
		}
	}
	for _, x := range []string{all(l, nil, empty), all(l, empty, nil), all(l, empty, empty)} {
		if x != all(l, nil, nil) {
			t.Errorf("nil and empty do not mean the same: %s, %s", shown(x), shown(all(l, nil, nil)))
		}
	}
	if all(nil, nil, nil) != all([]api.Node{}, empty, empty) {
		t.Error("no nodes and nil nodes do not mean the same")
	}
	checks(t, full, 0, api.OK)
}

func TestP1LongArguments(t *testing.T) {
	l := greatest()
	ids := slices.Repeat(idsOf(l), 2000)
	s := slowly(l)
	for _, c := range calls() {
		if got, e := c.do(l, ids, ids); e != api.OK || !slices.Equal(got, c.slow(s, idsOf(l), idsOf(l))) {
			t.Errorf("%s of %d IDs: %s, %d", c.name, len(ids), names(got), e)
		}
		if got, e := c.do(l, append(ids, dig(1, 99)), nil); e != api.ErrNone || len(got) != 0 {
			t.Errorf("%s of %d IDs, the last one of none: %s, %d", c.name, len(ids), names(got), e)
		}
		if got, e := c.do(make([]api.Node, 1<<20), ids, ids); e != api.ErrMany || len(got) != 0 {
			t.Errorf("%s in too many nodes: %s, %d", c.name, names(got), e)
		}
	}
	checks(t, []api.Node{{Parents: make([]api.Digest, 1<<20)}}, 0, api.ErrMany)
}

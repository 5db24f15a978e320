package graph

import (
	"iter"
	"slices"

	"recension/api"
	"recension/rising"
)

// nodes are those of a list that may be. A node's number is its place in the list, so that its parents' are less.
type nodes struct {
	ids     []api.Digest
	parents [][]int
	numbers map[api.Digest]int
	due     []bool // what the going over that was begun last is still to come to, or came to
}

// read are a list's nodes; where one may not be, the first such one's place.
func read(l []api.Node) (*nodes, int, api.Errno) {
	if len(l) > api.MaxCommits {
		return nil, 0, api.ErrMany
	}
	g := &nodes{numbers: make(map[api.Digest]int, len(l)), due: make([]bool, len(l))}
	for i, x := range l {
		if e := g.add(x); e != api.OK {
			return nil, i, e
		}
	}
	return g, 0, api.OK
}

// add takes a node behind the others.
func (g *nodes) add(x api.Node) api.Errno {
	if len(x.Parents) > api.MaxParents {
		return api.ErrMany
	}
	if !rising.Are(x.Parents) {
		return api.ErrForm
	}
	if _, there := g.numbers[x.ID]; there {
		return api.ErrThere
	}
	parents, ok := g.find(x.Parents)
	if !ok {
		return api.ErrNone
	}
	g.numbers[x.ID] = len(g.ids)
	g.ids = append(g.ids, x.ID)
	g.parents = append(g.parents, parents)
	return api.OK
}

// find are the numbers of some IDs, and true, if all of them are nodes'.
func (g *nodes) find(ids []api.Digest) ([]int, bool) {
	l := make([]int, 0, len(ids))
	for _, id := range ids {
		n, ok := g.numbers[id]
		if !ok {
			return nil, false
		}
		l = append(l, n)
	}
	return l, true
}

// ask are a list's nodes, and the numbers of what is asked about them.
func ask(l []api.Node, lists ...[]api.Digest) (*nodes, [][]int, api.Errno) {
	g, _, e := read(l)
	if e != api.OK {
		return nil, nil, e
	}
	var asked [][]int
	for _, ids := range lists {
		found, ok := g.find(ids)
		if !ok {
			return nil, nil, api.ErrNone
		}
		asked = append(asked, found)
	}
	return g, asked, api.OK
}

// above goes over what some stand above, each once and ahead of its parents. Only one such going is on its way at a time.
func (g *nodes) above(some []int) iter.Seq[int] {
	return func(yield func(int) bool) {
		clear(g.due)
		for _, n := range some {
			g.due[n] = true
		}
		// From behind, for whoever is a node's child has a greater number, and has told of it by then.
		for n := len(g.due) - 1; n >= 0; n-- {
			if !g.due[n] {
				continue
			}
			if !yield(n) {
				return
			}
			for _, p := range g.parents[n] {
				g.due[p] = true
			}
		}
	}
}

// under tells, number by number, whether one of some stands above it.
func (g *nodes) under(some []int) []bool {
	marked := make([]bool, len(g.ids))
	for n := range g.above(some) {
		marked[n] = true
	}
	return marked
}

// heads are those of some that no other one of them stands above, rising.
func (g *nodes) heads(some []int) []int {
	marked := make([]bool, len(g.ids))
	for _, n := range some {
		marked[n] = true
	}
	// What one stands above, itself left out, is a parent of something that it stands above.
	for n := range g.above(some) {
		for _, p := range g.parents[n] {
			marked[p] = false
		}
	}
	return g.rising(marked)
}

// rising are those that are marked, by their digests.
func (g *nodes) rising(marked []bool) []int {
	var l []int
	for n, is := range marked {
		if is {
			l = append(l, n)
		}
	}
	slices.SortFunc(l, func(a, b int) int { return rising.Order(g.ids[a], g.ids[b]) })
	return l
}

// order are all that some stand above, each the least one whose parents have all come.
func (g *nodes) order(some []int) []int {
	late := g.under(some)
	rest := g.rising(late)
	isLate := func(n int) bool { return late[n] }
	var l []int
	for len(rest) > 0 {
		i := slices.IndexFunc(rest, func(n int) bool { return !slices.ContainsFunc(g.parents[n], isLate) })
		l = append(l, rest[i])
		late[rest[i]] = false
		rest = slices.Delete(rest, i, i+1)
	}
	return l
}

// tell are the digests of some.
func (g *nodes) tell(some []int) []api.Digest {
	var l []api.Digest
	for _, n := range some {
		l = append(l, g.ids[n])
	}
	return l
}

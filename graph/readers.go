package graph

import (
	"slices"

	"gavelkind/api"
)

func (g *Graph) isNode(n int) bool { return n >= 0 && n < g.Nodes() }

// fault tells what is wrong with a Set, of several things the one that is named first.
func (g *Graph) fault(v int, reads []int) api.Errno {
	some := func(is func(w int) bool) bool { return slices.ContainsFunc(reads, is) }
	isStranger := func(w int) bool { return !g.isNode(w) }
	isSelf := func(w int) bool { return w == v }
	seen := map[int]struct{}{}
	isSeen := func(w int) bool {
		_, is := seen[w]
		seen[w] = struct{}{}
		return is
	}
	switch {
	case g.Nodes() == 0:
		return api.ErrNil
	case isStranger(v) || some(isStranger):
		return api.ErrArg
	case some(isSelf):
		return api.ErrCircle
	case some(isSeen):
		return api.ErrTwice
	}
	return api.OK
}

// add makes a node a reader of each of reads, and tells of how many it was none.
func (g *Graph) add(v int, reads []int) int {
	many := 0
	for _, w := range reads {
		if g.Has(v, w) {
			continue
		}
		if g.readers[w] == nil { // late, as most graphs have many nodes that nobody reads
			g.readers[w] = map[int]struct{}{}
		}
		g.readers[w][v] = struct{}{}
		many++
	}
	return many
}

// drop deletes a node from the readers of those that it reads and that are not in reads, and tells how many these are.
func (g *Graph) drop(v int, reads []int) int {
	stay := make(map[int]struct{}, len(reads))
	for _, w := range reads {
		stay[w] = struct{}{}
	}
	many := 0
	for _, w := range g.reads[v] {
		if _, is := stay[w]; !is {
			delete(g.readers[w], v)
			many++
		}
	}
	return many
}

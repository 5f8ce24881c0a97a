package forest

import "slices"

// held is how an entity is held: by whom, and with which share.
type held struct{ parent, share int }

// node is an entity as its forest has it, so that others can be asked how they stand to it.
type node struct {
	forest *Forest
	entity int
}

func (n node) holds(other int) bool { return n.forest.Parent(other) == n.entity }

func (n node) isOver(other int) bool { return node{n.forest, other}.isUnder(n.entity) }

func (n node) isUnder(other int) bool { return slices.Contains(n.forest.line(n.entity), other) }

// has tells whether a number is an entity of the forest: of a nil one none is.
func (f *Forest) has(entity int) bool { return f != nil && entity >= 1 && entity <= f.count }

// how tells how an entity is held; a number that is none is held by none, with nothing.
func (f *Forest) how(entity int) held {
	if !f.has(entity) {
		return held{}
	}
	return f.by[entity-1]
}

// line tells an entity and those above it, the nearest one first.
func (f *Forest) line(entity int) []int {
	var l []int
	for f.has(entity) { // it ends, as no stakes that may be go round
		l = append(l, entity)
		entity = f.Parent(entity)
	}
	return l
}

// those tells the entities that are something, rising.
func (f *Forest) those(are func(entity int) bool) []int {
	var l []int
	for entity := 1; f.has(entity); entity++ {
		if are(entity) {
			l = append(l, entity)
		}
	}
	return l
}

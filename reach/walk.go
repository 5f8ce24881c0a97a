package reach

import "slices"

// unreached stands in for the steps of a node to which no way leads.
const unreached = -1

// walked tells of each node by how many steps it is reached, where a step leads from a node to one of those that next tells.
func walked(nodes int, from []int, next func(v int) []int) []int {
	steps := slices.Repeat([]int{unreached}, nodes)
	var row []int // those that are reached, in the order in which they were: as the nearest come first, the first way to a node is a shortest one
	come := func(v, far int) {
		if v >= 0 && v < nodes && steps[v] == unreached {
			steps[v] = far
			row = append(row, v)
		}
	}
	for _, v := range from {
		come(v, 0)
	}
walk:
	for at := 0; at < len(row); at++ {
		far := steps[row[at]] + 1
		for _, w := range next(row[at]) {
			if len(row) == nodes { // all are reached, so that no step leads to another one
				break walk
			}
			come(w, far)
		}
	}
	return steps
}

// found tells the nodes that are reached.
func found(steps []int) []int {
	var l []int
	for v, far := range steps {
		if far != unreached {
			l = append(l, v)
		}
	}
	return l
}

package order

import (
	"slices"

	"gavelkind/api"
	"gavelkind/graph"
	"gavelkind/pile"
)

// held is some nodes of a graph, each of which waits at one that holds it back, till none does and it is ready.
type held struct {
	left    []bool                  // of each node of the graph: it is one of these, and was not told yet
	waiting [][]int                 // at each node of the graph: those that it holds back
	holder  func(v int) (int, bool) // tells what holds a node back
	push    func(v int) api.Errno   // makes a node ready; there is room for all, as a graph has no more nodes than a pile has room for
	pop     func() (int, bool)      // tells the least node that is ready
}

// holdBack lets each of these nodes wait, or makes it ready.
func holdBack(g *graph.Graph, some []int) *held {
	left := make([]bool, g.Nodes())
	for _, v := range some {
		if v >= 0 && v < len(left) {
			left[v] = true
		}
	}
	ready := pile.New(func(a, b int) bool { return a < b })
	h := &held{left, make([][]int, len(left)), holders(g, left), ready.Push, ready.Pop}
	for v := range left {
		if left[v] {
			h.hold(v)
		}
	}
	return h
}

// holders makes a closure that tells of a node that is left one of its reads that is left, too, if there is any.
func holders(g *graph.Graph, left []bool) func(v int) (int, bool) {
	reads := make([][]int, len(left))
	for v := range left {
		if left[v] {
			reads[v] = g.Reads(v)
		}
	}
	return func(v int) (int, bool) {
		for ; len(reads[v]) > 0; reads[v] = reads[v][1:] { // what is not left never holds back again, so that each read is gone by but once
			if w := reads[v][0]; left[w] {
				return w, true
			}
		}
		return 0, false
	}
}

// hold lets a node wait at what holds it back, or makes it ready.
func (h *held) hold(v int) {
	w, is := h.holder(v)
	if !is {
		h.push(v)
		return
	}
	h.waiting[w] = append(h.waiting[w], v)
}

// tell ends that a node holds others back.
func (h *held) tell(v int) {
	h.left[v] = false
	for _, w := range h.waiting[v] {
		h.hold(w)
	}
}

// all tells the nodes, one by one, till none is ready.
func (h *held) all() []int {
	var l []int
	for v, ok := h.pop(); ok; v, ok = h.pop() {
		l = append(l, v)
		h.tell(v)
	}
	return l
}

// rows tells the nodes, at each time all that are ready, till none is.
func (h *held) rows() [][]int {
	var rows [][]int
	for row := h.row(); len(row) > 0; row = h.row() {
		rows = append(rows, row)
		for _, v := range row {
			h.tell(v)
		}
	}
	return rows
}

// row tells all that are ready, rising.
func (h *held) row() []int {
	var row []int
	for v, ok := h.pop(); ok; v, ok = h.pop() {
		row = append(row, v)
	}
	return row
}

// isStuck tells, when none is ready any more, whether some are left: each of these is held back by one that is left, too.
func (h *held) isStuck() bool { return slices.Contains(h.left, true) }

// circle goes from one that is left to what holds it back, and so on: such a way ends nowhere, so that it comes into a circle.
func (h *held) circle() []int {
	v := slices.Index(h.left, true)
	for range h.left { // after as many steps as there are nodes it is in the circle
		v, _ = h.holder(v)
	}
	l := []int{v}
	for w, _ := h.holder(v); w != v; w, _ = h.holder(w) {
		l = append(l, w)
	}
	return l
}

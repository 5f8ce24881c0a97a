package plan

import (
	"slices"

	"gavelkind/graph"
)

// desk is where planned nodes are gone through, and done if they have to be.
type desk struct {
	do   func(v int) bool // does a node, and tells whether that changed it
	jobs []job            // in the plan's order
}

// job is a planned node, and what tells whether it has to be done. It is a copy, taken ahead of all that is done, as a do may change the graph or the list dirty.
type job struct {
	node  int
	dirty bool
	reads []int
}

// lay lays the planned nodes on a desk.
func lay(g *graph.Graph, dirty, planned []int, do func(v int) bool) *desk {
	isDirty := make([]bool, g.Nodes())
	for _, v := range dirty {
		if v >= 0 && v < len(isDirty) {
			isDirty[v] = true
		}
	}
	jobs := make([]job, 0, len(planned))
	for _, v := range planned {
		jobs = append(jobs, job{v, isDirty[v], g.Reads(v)})
	}
	return &desk{calm(do), jobs}
}

// calm takes a do that panics for one that tells no change: no call may panic. None at all is one that always tells a change.
func calm(do func(v int) bool) func(v int) bool {
	if do == nil {
		return func(int) bool { return true }
	}
	return func(v int) (is bool) {
		defer func() {
			if recover() != nil {
				is = false
			}
		}()
		return do(v)
	}
}

// run does what has to be done, and tells what it did.
func (d *desk) run() []int {
	changed := map[int]struct{}{} // of those that were done
	hasChanged := func(v int) bool {
		_, is := changed[v]
		return is
	}
	var done []int
	for _, j := range d.jobs {
		if !j.dirty && !slices.ContainsFunc(j.reads, hasChanged) {
			continue
		}
		if d.do(j.node) {
			changed[j.node] = struct{}{}
		}
		done = append(done, j.node)
	}
	return done
}

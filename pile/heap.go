package pile

// entry is a thing, and how many were pushed ahead of it: of things that are alike the one that came first is ahead.
type entry[T any] struct {
	thing T
	turn  int
}

func (p *Pile[T]) isMade() bool { return p != nil && p.less != nil }

// calm takes a less that panics for one that tells no: no call of a pile may panic.
func calm[T any](less func(a, b T) bool) func(a, b T) bool {
	return func(a, b T) (is bool) {
		defer func() {
			if recover() != nil {
				is = false
			}
		}()
		return less(a, b)
	}
}

// isAhead asks less but once: what came first is ahead unless the other thing is less.
func (p *Pile[T]) isAhead(a, b entry[T]) bool {
	if a.turn < b.turn {
		return !p.less(b.thing, a.thing)
	}
	return p.less(a.thing, b.thing)
}

func (p *Pile[T]) put(x T) {
	p.heap = append(p.heap, entry[T]{x, p.pushed})
	p.pushed++
	p.rise(p.heap)
}

// take takes out the first thing of at least one.
func (p *Pile[T]) take() T {
	first, last := p.heap[0].thing, len(p.heap)-1
	p.heap[0] = p.heap[last]
	clear(p.heap[last:]) // what it leads to is not to be held by the heap's spare room
	p.heap = p.heap[:last]
	p.sink(p.heap)
	return first
}

// rise brings the last one up to where none that it is ahead of stands above it. It works on a list of its own, as sink does, so that a less that pushes or pops does not make its places wrong.
func (p *Pile[T]) rise(heap []entry[T]) {
	for at := len(heap) - 1; at > 0; {
		above := (at - 1) / 2
		if !p.isAhead(heap[at], heap[above]) {
			return
		}
		heap[at], heap[above] = heap[above], heap[at]
		at = above
	}
}

// sink brings the first one down to where none that is ahead of it stands below it.
func (p *Pile[T]) sink(heap []entry[T]) {
	for at := 0; ; {
		first := at
		for below := 2*at + 1; below <= 2*at+2 && below < len(heap); below++ {
			if p.isAhead(heap[below], heap[first]) {
				first = below
			}
		}
		if first == at {
			return
		}
		heap[at], heap[first] = heap[first], heap[at]
		at = first
	}
}

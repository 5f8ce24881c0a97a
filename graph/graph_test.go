package graph

import (
	"math"
	"math/rand"
	"slices"
	"testing"

	"gavelkind/api"
)

const most, least = math.MaxInt, math.MinInt

// strangers are no nodes of a graph of so many, though some are as far from one that is as the graph or a number of 32 bits is great.
func strangers(nodes int) []int {
	return []int{-1, nodes, -2, nodes + 1, -nodes, -nodes - 1, 2 * nodes, 20000, 20001, 1 << 31, -1 << 31, 1<<32 - 1, 1 << 32, 1<<32 + nodes - 1, -1 << 32, most, most - 1, least, least + 1, least + nodes - 1}
}

// model is what each node reads, by its last Set that was OK: all that a graph tells is worked out of that, by the chapter's words.
type model [][]int

func (m model) isNode(v int) bool { return v >= 0 && v < len(m) }

func (m model) has(v, w int) bool { return m.isNode(v) && slices.Contains(m[v], w) }

func (m model) readers(w int) []int {
	var l []int
	for v := range m {
		if m.has(v, w) {
			l = append(l, v)
		}
	}
	return l
}

func (m model) edges() int {
	n := 0
	for _, l := range m {
		n += len(l)
	}
	return n
}

func (m model) fault(v int, reads []int) api.Errno {
	if !m.isNode(v) {
		return api.ErrArg
	}
	for _, w := range reads {
		if !m.isNode(w) {
			return api.ErrArg
		}
	}
	for _, w := range reads {
		if w == v {
			return api.ErrCircle
		}
	}
	for i, w := range reads {
		for _, x := range reads[:i] {
			if w == x {
				return api.ErrTwice
			}
		}
	}
	return api.OK
}

func (m model) set(v int, reads []int) (added, dropped int, e api.Errno) {
	if e := m.fault(v, reads); e != api.OK {
		return 0, 0, e
	}
	for _, w := range reads {
		if !m.has(v, w) {
			added++
		}
	}
	for _, w := range m[v] {
		if !slices.Contains(reads, w) {
			dropped++
		}
	}
	m[v] = slices.Clone(reads)
	return added, dropped, api.OK
}

// both is a graph and what it has to answer.
type both struct {
	g *Graph
	m model
}

// empty makes a graph, in which none reads any.
func empty(t *testing.T, nodes int) *both {
	t.Helper()
	g, e := New(nodes)
	if e != api.OK || g == nil {
		t.Fatalf("New(%d): %v, %v", nodes, g, e)
	}
	return &both{g, make(model, nodes)}
}

// set does a Set of both, holds what is told against what has to be, and looks at whether the list that was handed in stays as it was, its spare room, too.
func (b *both) set(t *testing.T, v int, reads ...int) api.Errno {
	t.Helper()
	roomy := append(slices.Clone(reads), -7, -7, -7)
	given := roomy[:len(reads)]
	added, dropped, e := b.g.Set(v, given)
	wantAdded, wantDropped, want := b.m.set(v, reads)
	if added != wantAdded || dropped != wantDropped || e != want {
		t.Fatalf("Set(%d, %v): %d, %d, %v; not %d, %d, %v", v, reads, added, dropped, e, wantAdded, wantDropped, want)
	}
	if !slices.Equal(given, reads) || !slices.Equal(roomy[len(reads):], []int{-7, -7, -7}) {
		t.Fatalf("Set(%d, %v) made of that %v", v, reads, roomy)
	}
	if n := b.g.Edges(); n != b.m.edges() {
		t.Fatalf("Edges behind Set(%d, %v): %d, not %d", v, reads, n, b.m.edges())
	}
	for i := range roomy { // what the caller does with it afterwards plays no part
		roomy[i] = 0
	}
	return e
}

// told is one more Set, of which what is told is written out.
func (b *both) told(t *testing.T, v int, reads []int, added, dropped int, e api.Errno) {
	t.Helper()
	a, d, f := b.g.Set(v, reads)
	if a != added || d != dropped || f != e {
		t.Fatalf("Set(%d, %v): %d, %d, %v; not %d, %d, %v", v, reads, a, d, f, added, dropped, e)
	}
	b.m.set(v, reads)
	b.look(t)
}

// look asks a graph for all that it tells.
func (b *both) look(t *testing.T) {
	t.Helper()
	b.lookAt(t, b.all()...)
	for _, v := range strangers(len(b.m)) {
		if l := b.g.Reads(v); len(l) != 0 {
			t.Fatalf("Reads(%d), of %d nodes: %v", v, len(b.m), l)
		}
		if l := b.g.Readers(v); len(l) != 0 {
			t.Fatalf("Readers(%d), of %d nodes: %v", v, len(b.m), l)
		}
		for _, w := range []int{0, 1, len(b.m) - 1, v, -1, len(b.m)} {
			if b.g.Has(v, w) || b.g.Has(w, v) {
				t.Fatalf("of %d nodes: Has(%d, %d) %v, Has(%d, %d) %v", len(b.m), v, w, b.g.Has(v, w), w, v, b.g.Has(w, v))
			}
		}
	}
}

func (b *both) all() []int {
	var l []int
	for v := range b.m {
		l = append(l, v)
	}
	return l
}

// lookAt asks a graph for what it tells of some of its nodes.
func (b *both) lookAt(t *testing.T, some ...int) {
	t.Helper()
	if b.g.Nodes() != len(b.m) || b.g.Edges() != b.m.edges() {
		t.Fatalf("Nodes %d, Edges %d; not %d, %d", b.g.Nodes(), b.g.Edges(), len(b.m), b.m.edges())
	}
	for _, v := range some {
		if l := b.g.Reads(v); !slices.Equal(l, b.m[v]) {
			t.Fatalf("Reads(%d): %v, not %v", v, l, b.m[v])
		}
		if l := b.g.Readers(v); !slices.Equal(l, b.m.readers(v)) {
			t.Fatalf("Readers(%d): %v, not %v", v, l, b.m.readers(v))
		}
		for _, w := range some {
			if b.g.Has(v, w) != b.m.has(v, w) {
				t.Fatalf("Has(%d, %d): %v", v, w, !b.m.has(v, w))
			}
		}
	}
}

// P12.1: how many nodes there may be; none of them reads any.
func TestNew(t *testing.T) {
	for _, n := range []int{1, 2, 3, 5, 64, 1000} {
		empty(t, n).look(t)
	}
	for _, n := range []int{19999, 20000, api.MaxCells} {
		b := empty(t, n)
		b.lookAt(t, 0, 1, n/2, n-2, n-1)
		for v := range n {
			if len(b.g.Reads(v)) != 0 || len(b.g.Readers(v)) != 0 || b.g.Has(v, n-1-v) || b.g.Has(v, v) {
				t.Fatalf("of %d nodes, %d: Reads %v, Readers %v", n, v, b.g.Reads(v), b.g.Readers(v))
			}
		}
	}
}

// P12.1: other numbers are refused.
func TestNewRefuses(t *testing.T) {
	for _, n := range []int{0, -1, -2, -19999, -20000, 20001, 20002, 40000, 65536, 1 << 31, -1 << 31, 1 << 32, 1<<32 + 1, 1<<32 + 20000, -1<<32 + 1, most, most - 1, least, least + 1, least + 20000} {
		if g, e := New(n); g != nil || e != api.ErrArg {
			t.Fatalf("New(%d): %v, %v", n, g, e)
		}
	}
}

// noGraph asks a graph that New did not make for all, twice, as nothing is to be kept in it.
func noGraph(t *testing.T, name string, g *Graph) {
	t.Helper()
	numbers := append([]int{0, 1, 2, 19999}, strangers(1)...)
	for range 2 {
		if g.Nodes() != 0 || g.Edges() != 0 {
			t.Errorf("%s: Nodes %d, Edges %d", name, g.Nodes(), g.Edges())
		}
		for _, v := range numbers {
			for _, reads := range [][]int{nil, {}, {0}, {1}, {1, 2}, {v}, {v, v}, {-1}, {20000}, {2, 2}, {most, least}} {
				given := slices.Clone(reads)
				if a, d, e := g.Set(v, given); a != 0 || d != 0 || e != api.ErrNil || !slices.Equal(given, reads) {
					t.Errorf("%s: Set(%d, %v): %d, %d, %v", name, v, reads, a, d, e)
				}
			}
			if len(g.Reads(v)) != 0 || len(g.Readers(v)) != 0 {
				t.Errorf("%s: of %d: Reads %v, Readers %v", name, v, g.Reads(v), g.Readers(v))
			}
			for _, w := range numbers {
				if g.Has(v, w) {
					t.Errorf("%s: Has(%d, %d)", name, v, w)
				}
			}
		}
	}
}

// P12.1, P12.2, P12.3: a nil graph, and a plain one.
func TestNoGraph(t *testing.T) {
	noGraph(t, "nil", nil)
	noGraph(t, "plain", &Graph{})
	noGraph(t, "new", new(Graph))
	var plain Graph
	noGraph(t, "plain, not of new", &plain)
}

// P12.2: the chapter's example, and others, written out.
func TestSet(t *testing.T) {
	b := empty(t, 6)
	b.told(t, 2, []int{0, 1}, 2, 0, api.OK)
	b.told(t, 2, []int{1, 5}, 1, 1, api.OK)                       // some the same, and some others
	b.told(t, 2, []int{1, 5}, 0, 0, api.OK)                       // the same ones
	b.told(t, 2, []int{5, 1}, 0, 0, api.OK)                       // in another order
	b.told(t, 2, []int{5, 0, 1}, 1, 0, api.OK)                    // one more, between them
	b.told(t, 2, []int{1, 5}, 0, 1, api.OK)                       // one less
	b.told(t, 2, []int{0, 3}, 2, 2, api.OK)                       // all others
	b.told(t, 2, []int{5, 4, 3, 1, 0}, 3, 0, api.OK)              // all there are
	b.told(t, 2, []int{0, 1, 3, 4, 5}, 0, 0, api.OK)              // all there are, in another order
	b.told(t, 2, []int{4}, 0, 4, api.OK)                          // one of them
	b.told(t, 2, nil, 0, 1, api.OK)                               // none
	b.told(t, 2, []int{}, 0, 0, api.OK)                           // none, a second time
	b.told(t, 2, []int{4}, 1, 0, api.OK)                          // that which it read once
	b.told(t, 4, []int{2}, 1, 0, api.OK)                          // two that read each other
	b.told(t, 0, []int{5, 2}, 2, 0, api.OK)                       // the first node
	b.told(t, 5, []int{0, 2, 4}, 3, 0, api.OK)                    // the last one
	b.told(t, 5, []int{4, 3}, 1, 2, api.OK)                       // others that read 0 and 2 still do
	b.told(t, 4, []int{}, 0, 1, api.OK)                           // others that read 4 still do
	b.told(t, 0, []int{1, 2, 3, 4, 5}, 3, 0, api.OK)              // all others
	b.told(t, 0, []int{5, 4, 3, 2, 1}, 0, 0, api.OK)              // turned round
	b.told(t, 0, []int{5, 4, 3, 2, 1, 0}, 0, 0, api.ErrCircle)    // with itself
	b.told(t, 0, []int{5, 4, 3, 2, 1, 6}, 0, 0, api.ErrArg)       // with no node
	b.told(t, 0, []int{5, 4, 3, 2, 1, 5}, 0, 0, api.ErrTwice)     // with one twice
	b.told(t, 6, []int{5, 4}, 0, 0, api.ErrArg)                   // of no node
	b.told(t, -1, nil, 0, 0, api.ErrArg)                          // of no node, to none
	b.told(t, 3, []int{3}, 0, 0, api.ErrCircle)                   // itself alone
	b.told(t, 3, []int{3, 3}, 0, 0, api.ErrCircle)                // itself, twice
	b.told(t, 3, []int{1, 1, 3}, 0, 0, api.ErrCircle)             // itself behind one that stands there twice
	b.told(t, 3, []int{1, 1, 3, 6}, 0, 0, api.ErrArg)             // and all behind them a number that is no node
	b.told(t, 3, []int{1, 1, 6}, 0, 0, api.ErrArg)                // one twice, ahead of it
	b.told(t, 3, []int{3, -1}, 0, 0, api.ErrArg)                  // itself, ahead of it
	b.told(t, 7, []int{7, 7}, 0, 0, api.ErrArg)                   // itself, that is no node
	b.told(t, 3, []int{0, 1, 2, 4, 5, 0}, 0, 0, api.ErrTwice)     // the first one, twice
	b.told(t, 3, []int{0, 1, 2, 4, 5, 5}, 0, 0, api.ErrTwice)     // the last one, twice
	b.told(t, 3, []int{5, 4, 2, 1, 0}, 5, 0, api.OK)              // behind all those that were refused
	b.told(t, 3, []int{1, 1, 1, 1, 1, 1, 1}, 0, 0, api.ErrTwice)  // more than there are nodes
	b.told(t, 3, []int{1, 1, 1, 1, 1, 1, -1}, 0, 0, api.ErrArg)   // the last of them is none
	b.told(t, 3, []int{least, 3, 3, most, 3}, 0, 0, api.ErrArg)   // all at once
	b.told(t, most, []int{0, 1}, 0, 0, api.ErrArg)                // of the greatest number
	b.told(t, least, []int{0, 1}, 0, 0, api.ErrArg)               // of the least one
	b.told(t, 1<<32, []int{1}, 0, 0, api.ErrArg)                  // as 0, in 32 bits
	b.told(t, 3, []int{1 << 32, 1}, 0, 0, api.ErrArg)             // likewise
	b.told(t, 3, []int{1<<32 + 3}, 0, 0, api.ErrArg)              // as itself, likewise
	b.told(t, 3, []int{5, 4, 2, 1, 0}, 0, 0, api.OK)              // what it reads all the while
	b.told(t, 3, []int{0, 2}, 0, 3, api.OK)                       // some of these, turned round
	b.told(t, 3, []int{4, 2, 1, 0, 5}, 3, 0, api.OK)              // all again
	b.told(t, 3, nil, 0, 5, api.OK)                               // none
	b.told(t, 1, []int{3, 5, 0, 2}, 4, 0, api.OK)                 // another one
	b.told(t, 1, []int{2, 4}, 1, 3, api.OK)                       // in part
	b.told(t, 1, []int{0, 3, 5, 2}, 3, 1, api.OK)                 // in part, back
	b.told(t, 1, []int{4, 3, 2, 5, 0}, 1, 0, api.OK)              // and all
	b.told(t, 1, []int{4, 3, 2, 5, 0, 1}, 0, 0, api.ErrCircle)    // and itself
	b.told(t, 1, []int{5, 0}, 0, 3, api.OK)                       // in part
	b.told(t, 0, nil, 0, 5, api.OK)                               // 1 reads 0, all the while
	b.told(t, 0, []int{1}, 1, 0, api.OK)                          // and 0 reads 1
	b.told(t, 0, []int{1, 2, 3, 4, 5}, 4, 0, api.OK)              // and all others
	b.told(t, 0, []int{1, 2, 3, 4, 5, 1}, 0, 0, api.ErrTwice)     // and one twice
	b.told(t, 0, []int{1, 2, 3, 4, 5, 1, 0}, 0, 0, api.ErrCircle) // and itself
	b.told(t, 0, []int{1, 2, 3, 4, 5, 1, 0, 6}, 0, 0, api.ErrArg) // and no node
}

// P12.1, P12.2, P12.3: a graph of one node, which can read nothing.
func TestOneNode(t *testing.T) {
	b := empty(t, 1)
	for range 2 {
		b.told(t, 0, nil, 0, 0, api.OK)
		b.told(t, 0, []int{}, 0, 0, api.OK)
		b.told(t, 0, []int{0}, 0, 0, api.ErrCircle)
		b.told(t, 0, []int{0, 0}, 0, 0, api.ErrCircle)
		b.told(t, 0, []int{1}, 0, 0, api.ErrArg)
		b.told(t, 0, []int{0, -1}, 0, 0, api.ErrArg)
		b.told(t, 1, nil, 0, 0, api.ErrArg)
		b.told(t, -1, []int{0}, 0, 0, api.ErrArg)
	}
}

// P12.2: each number that is no node, as the node and among the reads, at each place, is refused, and leaves no trace.
func TestStrangers(t *testing.T) {
	for _, nodes := range []int{1, 2, 3, 5, 64} {
		b := empty(t, nodes)
		for v := range nodes - 1 {
			b.set(t, v, v+1)
		}
		b.look(t)
		for _, n := range strangers(nodes) {
			for _, reads := range [][]int{nil, {0}, {0, 0}, {n}, {nodes - 1, 0}} {
				if e := b.set(t, n, reads...); e != api.ErrArg {
					t.Errorf("Set(%d, %v), of %d nodes: %v", n, reads, nodes, e)
				}
			}
			for v := range min(nodes, 3) {
				for _, reads := range [][]int{{n}, {n, n}, {v, n}, {n, v}, {0, 0, n}, {n, 0, 0}, {v, v, n}, {0, n, nodes - 1}, {nodes - 1, 0, n, v}} {
					if e := b.set(t, v, reads...); e != api.ErrArg {
						t.Errorf("Set(%d, %v), of %d nodes: %v", v, reads, nodes, e)
					}
				}
			}
		}
		b.look(t)
	}
}

// rows tells all lists of numbers from lo to hi that have so many.
func rows(many, lo, hi int) [][]int {
	l := [][]int{nil}
	for range many {
		var longer [][]int
		for _, row := range l {
			for n := lo; n <= hi; n++ {
				longer = append(longer, append(slices.Clone(row), n))
			}
		}
		l = longer
	}
	return l
}

// P12.2: all lists of up to 4 numbers at a graph of 3 nodes, of all these nodes and of what is none: each fault there may be, alone and with others, in any order.
func TestAllFaults(t *testing.T) {
	for _, first := range [][]int{nil, {2}, {2, 1}} {
		for v := -1; v <= 3; v++ {
			for many := range 5 {
				for _, reads := range rows(many, -1, 3) {
					b := empty(t, 3)
					b.set(t, 0, first...)
					b.set(t, 1, 0, 2)
					b.set(t, v, reads...)
					b.look(t)
				}
			}
		}
	}
}

// P12.2, P12.3, P12.4, P12.5: all rows of up to 4 Sets, right ones and some wrong ones, at a graph of 3 nodes.
func TestAllSets(t *testing.T) {
	type call struct {
		v     int
		reads []int
	}
	var calls []call
	for v := range 3 {
		a, b := (v+1)%3, (v+2)%3
		calls = append(calls, call{v, nil}, call{v, []int{a}}, call{v, []int{b}}, call{v, []int{a, b}}, call{v, []int{b, a}})
	}
	calls = append(calls, call{0, []int{1, 0}}, call{1, []int{2, 2}}, call{2, []int{0, 3}})
	for many := range 5 {
		for _, row := range rows(many, 0, len(calls)-1) {
			b := empty(t, 3)
			for _, k := range row {
				b.set(t, calls[k].v, calls[k].reads...)
			}
			b.lookAt(t, 0, 1, 2)
		}
	}
}

// P12.3: readers rise, in whatever order they came; reads stand in the order in which they were set.
func TestRise(t *testing.T) {
	draw := rand.New(rand.NewSource(123)) // the same each time
	for _, nodes := range []int{2, 3, 10, 100, 1000} {
		b := empty(t, nodes)
		var want []int
		for v := 1; v < nodes; v++ {
			want = append(want, v)
		}
		for _, k := range draw.Perm(nodes - 1) {
			b.set(t, k+1, 0)
		}
		if l := b.g.Readers(0); !slices.Equal(l, want) {
			t.Errorf("of %d nodes: Readers %v", nodes, l)
		}
		for range 3 {
			var reads []int
			for _, k := range draw.Perm(nodes - 1) {
				reads = append(reads, k+1)
			}
			b.set(t, 0, reads...)
			if l := b.g.Reads(0); !slices.Equal(l, reads) {
				t.Errorf("Reads: %v, not %v", l, reads)
			}
		}
		for i, k := range draw.Perm(nodes - 1) { // every second one goes
			if i%2 == 0 {
				b.set(t, k+1)
				want = slices.DeleteFunc(want, func(v int) bool { return v == k+1 })
			}
		}
		if l := b.g.Readers(0); !slices.Equal(l, want) {
			t.Errorf("of %d nodes, with half of them: Readers %v", nodes, l)
		}
		b.lookAt(t, 0, 1, nodes/2, nodes-1)
	}
}

// P12.1, P12.2, P12.3: the greatest graph: its first node reads all others, its last one is read by all others.
func TestGreatest(t *testing.T) {
	b := empty(t, 20000)
	var falling, others []int
	for v := 19999; v > 0; v-- {
		falling = append(falling, v)
	}
	b.just(t, 0, falling, 19999, 0)
	for v := 19998; v > 0; v-- {
		others = append(others, v)
		b.just(t, v, []int{19999}, 1, 0)
	}
	slices.Reverse(others)
	if l := b.g.Readers(19999); !slices.Equal(l, append([]int{0}, others...)) {
		t.Errorf("%d Readers", len(l))
	}
	if l := b.g.Reads(0); !slices.Equal(l, falling) {
		t.Errorf("%d Reads", len(l))
	}
	if n := b.g.Edges(); n != 39997 {
		t.Errorf("Edges: %d", n)
	}
	b.just(t, 19999, []int{0, 19998}, 2, 0)
	b.just(t, 0, []int{19999, 5}, 0, 19997)
	b.lookAt(t, 0, 1, 5, 19998, 19999)
	slices.Sort(falling)
	b.just(t, 0, falling, 19997, 0)
	b.just(t, 0, append(slices.Clone(falling), 1), 0, 0, api.ErrTwice)
	b.just(t, 0, append(slices.Clone(falling), 1, 0), 0, 0, api.ErrCircle)
	b.just(t, 0, append(slices.Clone(falling), 1, 0, 20000), 0, 0, api.ErrArg)
	b.just(t, 20000, falling, 0, 0, api.ErrArg)
	b.just(t, 0, nil, 0, 19999)
	b.lookAt(t, 0, 1, 5, 19998, 19999)
}

// just is told without the look.
func (b *both) just(t *testing.T, v int, reads []int, added, dropped int, faults ...api.Errno) {
	t.Helper()
	want := api.OK
	if len(faults) > 0 {
		want = faults[0]
	}
	if a, d, e := b.g.Set(v, reads); a != added || d != dropped || e != want {
		t.Fatalf("Set(%d) to %d nodes: %d, %d, %v; not %d, %d, %v", v, len(reads), a, d, e, added, dropped, want)
	}
	if want == api.OK {
		b.m[v] = slices.Clone(reads)
	}
}

// P12.2, P12.3, rule 4: a list that was handed in, or out, has nothing to do with the graph afterwards, its spare room neither.
func TestListsApart(t *testing.T) {
	b := empty(t, 6)
	roomy := []int{0, 1, 3, 5, 5, 5}
	given := roomy[:3:5]
	b.told(t, 2, given, 3, 0, api.OK)
	b.told(t, 4, []int{1}, 1, 0, api.OK)
	if !slices.Equal(roomy, []int{0, 1, 3, 5, 5, 5}) {
		t.Errorf("handed in: %v", roomy)
	}
	for i := range roomy {
		roomy[i] = 4
	}
	b.look(t)
	b.told(t, 2, []int{3, 0, 1}, 0, 0, api.OK)
	reads, other := b.g.Reads(2), b.g.Reads(2)
	readers, otherReaders := b.g.Readers(1), b.g.Readers(1)
	for _, l := range [][]int{reads, readers} {
		for i := range l {
			l[i] = 99
		}
		_ = append(l, 98, 97)
		_ = append(l[:1], 96)
	}
	if !slices.Equal(other, []int{3, 0, 1}) || !slices.Equal(otherReaders, []int{2, 4}) {
		t.Errorf("told twice: %v, %v", other, otherReaders)
	}
	b.look(t)
	b.told(t, 2, b.g.Reads(2), 0, 0, api.OK)
	b.told(t, 2, b.g.Reads(4), 0, 2, api.OK)
	b.told(t, 4, b.g.Readers(0), 0, 1, api.OK)
	same := []int{0, 1}
	b.told(t, 4, same, 2, 0, api.OK) // one list, handed in for two nodes
	b.told(t, 5, same, 2, 0, api.OK)
	b.told(t, 4, []int{1, 0}, 0, 0, api.OK)
	b.told(t, 5, []int{3}, 1, 2, api.OK)
}

// P12.3: what was told stays as it was, whatever is set afterwards.
func TestToldStays(t *testing.T) {
	b := empty(t, 4)
	b.set(t, 0, 2, 1)
	b.set(t, 3, 1)
	reads, readers := b.g.Reads(0), b.g.Readers(1)
	b.set(t, 0, 3, 2)
	b.set(t, 2, 1)
	b.set(t, 3)
	if !slices.Equal(reads, []int{2, 1}) || !slices.Equal(readers, []int{0, 3}) {
		t.Errorf("told: %v, %v", reads, readers)
	}
	b.look(t)
}

// P12.1, P12.2: two graphs have nothing to do with each other.
func TestTwoGraphs(t *testing.T) {
	a, b := empty(t, 5), empty(t, 5)
	a.set(t, 0, 1, 2)
	b.look(t)
	b.set(t, 0, 2, 3)
	b.set(t, 4, 2)
	a.look(t)
	b.set(t, 0)
	a.look(t)
	a.set(t, 0, 4)
	a.set(t, 4, 0, 0)
	b.look(t)
	empty(t, 5).look(t)
	c := empty(t, 2)
	c.set(t, 0, 1)
	a.look(t)
	b.look(t)
	c.look(t)
}

func drawn(draw *rand.Rand, l []int) int { return l[draw.Intn(len(l))] }

// drawnReads draws a list: most often a right one, of nodes ahead of or behind v, else one with any fault.
func drawnReads(draw *rand.Rand, nodes, v int) []int {
	var l []int
	for _, w := range draw.Perm(nodes)[:draw.Intn(min(nodes, 8)+1)] {
		if w != v {
			l = append(l, w)
		}
	}
	at := draw.Intn(len(l) + 1)
	switch draw.Intn(12) {
	case 0:
		l = slices.Insert(l, at, v)
	case 1:
		l = slices.Insert(l, at, drawn(draw, strangers(nodes)))
	case 2:
		l = slices.Insert(l, at, draw.Intn(nodes))
	case 3:
		l = slices.Insert(slices.Insert(l, at, v, v), draw.Intn(at+1), draw.Intn(nodes+2)-1)
	}
	return l
}

// P12.2, P12.3, P12.4: drawn rows of Sets. (The draw is the same each time.)
func TestDrawn(t *testing.T) {
	draw := rand.New(rand.NewSource(12))
	for _, nodes := range []int{2, 3, 4, 7, 12, 40} {
		for range 8 {
			b := empty(t, nodes)
			for step := range 150 {
				v := draw.Intn(nodes)
				if draw.Intn(15) == 0 {
					v = drawn(draw, strangers(nodes))
				}
				b.set(t, v, drawnReads(draw, nodes, v)...)
				if step%10 == 0 {
					b.look(t)
				}
			}
			b.look(t)
		}
	}
}

// P12.4: each edge is told from both of its ends, and by Has; all of them are as many as Edges. (The draw is the same each time.)
func TestTurns(t *testing.T) {
	draw := rand.New(rand.NewSource(124))
	g := empty(t, 30).g
	for range 300 {
		v := draw.Intn(30)
		g.Set(v, drawnReads(draw, 30, v))
		reads, readers := 0, 0
		for v := range 30 {
			reads, readers = reads+len(g.Reads(v)), readers+len(g.Readers(v))
			for w := range 30 {
				is := g.Has(v, w)
				if slices.Contains(g.Reads(v), w) != is || slices.Contains(g.Readers(w), v) != is {
					t.Fatalf("Has(%d, %d) %v, Reads %v, Readers %v", v, w, is, g.Reads(v), g.Readers(w))
				}
			}
		}
		if reads != g.Edges() || readers != g.Edges() {
			t.Fatalf("%d reads, %d readers, %d edges", reads, readers, g.Edges())
		}
	}
}

// P12.5: behind many Sets all is as in a graph of which only the last reads of each node were set, in any order of the nodes. (The draw is the same each time.)
func TestLast(t *testing.T) {
	draw := rand.New(rand.NewSource(125))
	for _, nodes := range []int{1, 2, 3, 5, 20, 60} {
		for range 10 {
			g, last := empty(t, nodes).g, make([][]int, nodes)
			for range 20 * nodes {
				v := draw.Intn(nodes)
				reads := drawnReads(draw, nodes, v)
				if _, _, e := g.Set(v, reads); e == api.OK {
					last[v] = reads
				}
			}
			fresh := empty(t, nodes).g
			for _, v := range draw.Perm(nodes) {
				if a, d, e := fresh.Set(v, last[v]); a != len(last[v]) || d != 0 || e != api.OK {
					t.Fatalf("Set(%d, %v): %d, %d, %v", v, last[v], a, d, e)
				}
			}
			alike(t, g, fresh)
			for v := range nodes { // what is told of the next Sets hangs on them, too
				reads := drawnReads(draw, nodes, v)
				a, d, e := g.Set(v, reads)
				if fa, fd, fe := fresh.Set(v, reads); a != fa || d != fd || e != fe {
					t.Fatalf("Set(%d, %v): %d, %d, %v and %d, %d, %v", v, reads, a, d, e, fa, fd, fe)
				}
			}
			alike(t, g, fresh)
		}
	}
}

// alike asks two graphs for all that they tell.
func alike(t *testing.T, g, h *Graph) {
	t.Helper()
	if g.Nodes() != h.Nodes() || g.Edges() != h.Edges() {
		t.Fatalf("Nodes %d and %d, Edges %d and %d", g.Nodes(), h.Nodes(), g.Edges(), h.Edges())
	}
	for v := range g.Nodes() {
		if !slices.Equal(g.Reads(v), h.Reads(v)) || !slices.Equal(g.Readers(v), h.Readers(v)) {
			t.Fatalf("of %d: Reads %v and %v, Readers %v and %v", v, g.Reads(v), h.Reads(v), g.Readers(v), h.Readers(v))
		}
		for w := range g.Nodes() {
			if g.Has(v, w) != h.Has(v, w) {
				t.Fatalf("Has(%d, %d): %v and %v", v, w, g.Has(v, w), h.Has(v, w))
			}
		}
	}
}

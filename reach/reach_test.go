package reach

import (
	"math"
	"math/rand"
	"slices"
	"testing"

	"gavelkind/api"
	"gavelkind/graph"
)

const most, least = math.MaxInt, math.MinInt

// strangers are no nodes of a graph of so many, though some are as far from one that is as the graph or a number of 32 bits is great.
func strangers(nodes int) []int {
	return []int{-1, nodes, -2, nodes + 1, -nodes, -nodes - 1, 2 * nodes, 20000, 20001, 1 << 31, -1 << 31, 1<<32 - 1, 1 << 32, 1<<32 + nodes - 1, -1 << 32, most, most - 1, least, least + 1, least + nodes - 1}
}

// model is what each node reads: all that is told is worked out of that, by the chapter's words.
type model [][]int

// set is the nodes of a list, as one bool a node.
func (m model) set(l []int) []bool {
	is := make([]bool, len(m))
	for v := range m {
		is[v] = slices.Contains(l, v)
	}
	return is
}

func numbers(is []bool) []int {
	var l []int
	for v := range is {
		if is[v] {
			l = append(l, v)
		}
	}
	return l
}

// reach goes over all edges again and again, till no node comes any more that reads one that is reached.
func (m model) reach(from []int) []bool {
	is := m.set(from)
	for more := true; more; {
		more = false
		for v := range m {
			for _, w := range m[v] {
				if is[w] && !is[v] {
					is[v], more = true, true
				}
			}
		}
	}
	return is
}

// needs does likewise, from who reads to what is read.
func (m model) needs(from []int) []bool {
	is := m.set(from)
	for more := true; more; {
		more = false
		for v := range m {
			for _, w := range m[v] {
				if is[v] && !is[w] {
					is[w], more = true, true
				}
			}
		}
	}
	return is
}

// steps tells those that are 0, 1, 2 and so on steps off, one number behind the other: a node that is reached is so many steps off, if it reads one that is 1 less, and is no fewer off.
func (m model) steps(from []int) []int {
	off := slices.Repeat([]int{-1}, len(m))
	for v := range m {
		if slices.Contains(from, v) {
			off[v] = 0
		}
	}
	for far := 1; far < len(m); far++ {
		for v := range m {
			if off[v] < 0 && slices.ContainsFunc(m[v], func(w int) bool { return off[w] == far-1 }) {
				off[v] = far
			}
		}
	}
	return off
}

// both is a graph and what each of its nodes reads.
type both struct {
	g *graph.Graph
	m model
}

// made makes a graph whose nodes read what stands at their places.
func made(t *testing.T, reads ...[]int) *both {
	t.Helper()
	b := &both{m: slices.Clone(reads)}
	var e api.Errno
	if b.g, e = graph.New(len(reads)); e != api.OK {
		t.Fatalf("New(%d): %v", len(reads), e)
	}
	for v := range reads {
		b.set(t, v, reads[v]...)
	}
	return b
}

func (b *both) set(t *testing.T, v int, reads ...int) {
	t.Helper()
	if _, _, e := b.g.Set(v, reads); e != api.OK {
		t.Fatalf("Set(%d, %v): %v", v, reads, e)
	}
	b.m[v] = slices.Clone(reads)
}

// ask makes all calls, and holds what they tell against the chapter's words.
func (b *both) ask(t *testing.T, from ...int) {
	t.Helper()
	if l, want := Reach(b.g, from), numbers(b.m.reach(from)); !slices.Equal(l, want) {
		t.Fatalf("%v, Reach of %v: %v, not %v", b.m, from, l, want)
	}
	if l, want := Needs(b.g, from), numbers(b.m.needs(from)); !slices.Equal(l, want) {
		t.Fatalf("%v, Needs of %v: %v, not %v", b.m, from, l, want)
	}
	l := Steps(b.g, from)
	if want := b.m.steps(from); !slices.Equal(l, want) {
		t.Fatalf("%v, Steps of %v: %v, not %v", b.m, from, l, want)
	}
	b.word(t, from, l)
}

// word holds each node's steps against those of the nodes that it reads, as P13.2 has it.
func (b *both) word(t *testing.T, from, steps []int) {
	t.Helper()
	reached := b.m.reach(from)
	for v := range b.m {
		want := -1
		if slices.Contains(from, v) {
			want = 0
		} else if reached[v] {
			fewest := most
			for _, w := range b.m[v] {
				if reached[w] {
					fewest = min(fewest, steps[w])
				}
			}
			want = fewest + 1
		}
		if steps[v] != want {
			t.Fatalf("%v, Steps of %v: %v, where that of %d has to be %d", b.m, from, steps, v, want)
		}
	}
}

// askAll asks from each node alone, from all of them, and from none.
func (b *both) askAll(t *testing.T) {
	t.Helper()
	var all []int
	b.ask(t)
	for v := range b.m {
		b.ask(t, v)
		all = append(all, v)
	}
	b.ask(t, all...)
}

// told makes all calls, and holds what they tell against what is written out.
func (b *both) told(t *testing.T, from, reach, needs, steps []int) {
	t.Helper()
	if l := Reach(b.g, from); !slices.Equal(l, reach) {
		t.Errorf("Reach of %v: %v, not %v", from, l, reach)
	}
	if l := Needs(b.g, from); !slices.Equal(l, needs) {
		t.Errorf("Needs of %v: %v, not %v", from, l, needs)
	}
	if l := Steps(b.g, from); !slices.Equal(l, steps) {
		t.Errorf("Steps of %v: %v, not %v", from, l, steps)
	}
	b.ask(t, from...)
}

// P13.1, P13.2: of a nil graph, and of a plain one, nothing, whatever it is asked.
func TestNoGraph(t *testing.T) {
	for i, g := range []*graph.Graph{nil, {}, new(graph.Graph)} {
		for _, from := range [][]int{nil, {}, {0}, {1}, {0, 0}, {0, 1, 2}, {-1}, {most}, {least}, strangers(0), strangers(1), make([]int, 1000)} {
			if l := Reach(g, from); len(l) != 0 {
				t.Errorf("%d: Reach of %v: %v", i, from, l)
			}
			if l := Needs(g, from); len(l) != 0 {
				t.Errorf("%d: Needs of %v: %v", i, from, l)
			}
			if l := Steps(g, from); len(l) != 0 {
				t.Errorf("%d: Steps of %v: %v", i, from, l)
			}
		}
	}
}

// P13.1, P13.2: the chapter's example, and what else it says.
func TestExample(t *testing.T) {
	b := made(t, nil, []int{0}, []int{1})
	b.told(t, []int{0}, []int{0, 1, 2}, []int{0}, []int{0, 1, 2})
	b.told(t, []int{1}, []int{1, 2}, []int{0, 1}, []int{-1, 0, 1})
	b.told(t, []int{2}, []int{2}, []int{0, 1, 2}, []int{-1, -1, 0})
	b.told(t, []int{2, 0}, []int{0, 1, 2}, []int{0, 1, 2}, []int{0, 1, 0})
	b.told(t, []int{1, 2}, []int{1, 2}, []int{0, 1, 2}, []int{-1, 0, 0})
}

// P13.1, P13.2: which numbers are in from, how often, and in which order.
func TestFrom(t *testing.T) {
	b := made(t, []int{2}, []int{0, 3}, nil, []int{4}, nil, []int{1, 0}, nil) // 2, 0, and 4, 3, then 1, then 5; 6 is alone
	none := []int{-1, -1, -1, -1, -1, -1, -1}
	b.told(t, nil, nil, nil, none)
	b.told(t, []int{}, nil, nil, none)
	b.told(t, []int{6}, []int{6}, []int{6}, []int{-1, -1, -1, -1, -1, -1, 0})
	b.told(t, []int{6, 6, 6}, []int{6}, []int{6}, []int{-1, -1, -1, -1, -1, -1, 0})
	b.told(t, []int{2}, []int{0, 1, 2, 5}, []int{2}, []int{1, 2, 0, -1, -1, 2, -1})
	b.told(t, []int{2, 2}, []int{0, 1, 2, 5}, []int{2}, []int{1, 2, 0, -1, -1, 2, -1})
	b.told(t, []int{4}, []int{1, 3, 4, 5}, []int{4}, []int{-1, 2, -1, 1, 0, 3, -1})
	b.told(t, []int{4, 2}, []int{0, 1, 2, 3, 4, 5}, []int{2, 4}, []int{1, 2, 0, 1, 0, 2, -1})
	b.told(t, []int{2, 4, 4, 2, 4}, []int{0, 1, 2, 3, 4, 5}, []int{2, 4}, []int{1, 2, 0, 1, 0, 2, -1})
	b.told(t, []int{5}, []int{5}, []int{0, 1, 2, 3, 4, 5}, []int{-1, -1, -1, -1, -1, 0, -1})
	b.told(t, []int{1, 5, 1}, []int{1, 5}, []int{0, 1, 2, 3, 4, 5}, []int{-1, 0, -1, -1, -1, 0, -1})
	b.told(t, []int{5, 6, 3}, []int{1, 3, 5, 6}, []int{0, 1, 2, 3, 4, 5, 6}, []int{-1, 1, -1, 0, -1, 0, 0})
	all := []int{0, 1, 2, 3, 4, 5, 6}
	zeros := make([]int, 7)
	b.told(t, all, all, all, zeros)
	b.told(t, []int{6, 5, 4, 3, 2, 1, 0}, all, all, zeros)
	b.told(t, []int{3, 0, 6, 0, 1, 3, 5, 2, 4, 3, 6}, all, all, zeros)
	b.told(t, slices.Repeat([]int{4, 2}, 100000), []int{0, 1, 2, 3, 4, 5}, []int{2, 4}, []int{1, 2, 0, 1, 0, 2, -1})
}

// P13.1, P13.2: a node that is 0 steps off is so whatever it reads, also if that is reached, however far off.
func TestFromReads(t *testing.T) {
	b := made(t, nil, []int{0}, []int{1}, []int{2}, []int{3, 0, 1}, []int{4})
	b.told(t, []int{0, 3}, []int{0, 1, 2, 3, 4, 5}, []int{0, 1, 2, 3}, []int{0, 1, 2, 0, 1, 2})
	b.told(t, []int{4, 0}, []int{0, 1, 2, 3, 4, 5}, []int{0, 1, 2, 3, 4}, []int{0, 1, 2, 3, 0, 1})
	b.told(t, []int{0, 4, 1, 3, 2}, []int{0, 1, 2, 3, 4, 5}, []int{0, 1, 2, 3, 4}, []int{0, 0, 0, 0, 0, 1})
	b.told(t, []int{4}, []int{4, 5}, []int{0, 1, 2, 3, 4}, []int{-1, -1, -1, -1, 0, 1})
}

// P13.1, P13.2: numbers that are no nodes play no part, alone and beside nodes, at each place.
func TestStrangers(t *testing.T) {
	for _, nodes := range []int{1, 2, 3, 5, 64} {
		b := made(t, make([][]int, nodes)...)
		for v := 1; v < nodes; v++ {
			b.set(t, v, v-1)
		}
		none := slices.Repeat([]int{-1}, nodes)
		strange := slices.DeleteFunc(strangers(nodes), func(n int) bool { return n >= 0 && n < nodes })
		b.told(t, strange, nil, nil, none)
		for _, n := range strange {
			b.told(t, []int{n}, nil, nil, none)
			b.told(t, []int{n, n}, nil, nil, none)
			for _, from := range [][]int{{0}, {nodes - 1}, {nodes / 2}, {nodes - 1, 0}} {
				reach, needs, steps := Reach(b.g, from), Needs(b.g, from), Steps(b.g, from)
				for at := range len(from) + 1 {
					b.told(t, slices.Insert(slices.Clone(from), at, n), reach, needs, steps)
					b.told(t, slices.Insert(slices.Clone(from), at, strange...), reach, needs, steps)
				}
			}
		}
	}
}

// P13.1, P13.2: a graph of one node, and some in which none reads any.
func TestNoReads(t *testing.T) {
	one := made(t, nil)
	one.told(t, nil, nil, nil, []int{-1})
	one.told(t, []int{0}, []int{0}, []int{0}, []int{0})
	one.told(t, []int{0, 0, 1, 0, -1}, []int{0}, []int{0}, []int{0})
	one.told(t, []int{1}, nil, nil, []int{-1})
	one.told(t, []int{-1}, nil, nil, []int{-1})
	for _, nodes := range []int{2, 3, 10, 100} {
		b := made(t, make([][]int, nodes)...)
		b.askAll(t)
		var even, steps []int
		for v := range nodes {
			if v%2 == 0 {
				even = append(even, v)
			}
			steps = append(steps, -(v % 2))
		}
		b.told(t, even, even, even, steps)
		falling := slices.Clone(even)
		slices.Reverse(falling)
		b.told(t, falling, even, even, steps)
	}
}

// P13.1, P13.2: chains, in both directions and in no order of numbers.
func TestChains(t *testing.T) {
	up := made(t, nil, []int{0}, []int{1}, []int{2}, []int{3})
	up.told(t, []int{0}, []int{0, 1, 2, 3, 4}, []int{0}, []int{0, 1, 2, 3, 4})
	up.told(t, []int{2}, []int{2, 3, 4}, []int{0, 1, 2}, []int{-1, -1, 0, 1, 2})
	up.told(t, []int{3, 1}, []int{1, 2, 3, 4}, []int{0, 1, 2, 3}, []int{-1, 0, 1, 0, 1})
	down := made(t, []int{1}, []int{2}, []int{3}, []int{4}, nil)
	down.told(t, []int{4}, []int{0, 1, 2, 3, 4}, []int{4}, []int{4, 3, 2, 1, 0})
	down.told(t, []int{2}, []int{0, 1, 2}, []int{2, 3, 4}, []int{2, 1, 0, -1, -1})
	down.told(t, []int{1, 3}, []int{0, 1, 2, 3}, []int{1, 2, 3, 4}, []int{1, 0, 1, 0, -1})
	mixed := made(t, []int{3}, []int{4}, nil, []int{1}, []int{2})
	mixed.told(t, []int{2}, []int{0, 1, 2, 3, 4}, []int{2}, []int{4, 2, 0, 3, 1})
	mixed.told(t, []int{1}, []int{0, 1, 3}, []int{1, 2, 4}, []int{2, 0, -1, 1, -1})
	mixed.told(t, []int{0}, []int{0}, []int{0, 1, 2, 3, 4}, []int{0, -1, -1, -1, -1})
	for _, b := range []*both{up, down, mixed} {
		b.askAll(t)
	}
}

// P13.1, P13.2: nodes that read several, which are reached on ways of different lengths: the shortest one counts, wherever it stands.
func TestWays(t *testing.T) {
	ahead := made(t, nil, []int{0}, []int{1}, []int{2}, []int{0, 3}, []int{3, 0}, []int{4, 5}) // 4 and 5 read 0, and what is 3 off
	ahead.told(t, []int{0}, []int{0, 1, 2, 3, 4, 5, 6}, []int{0}, []int{0, 1, 2, 3, 1, 1, 2})
	ahead.told(t, []int{1}, []int{1, 2, 3, 4, 5, 6}, []int{0, 1}, []int{-1, 0, 1, 2, 3, 3, 4})
	ahead.told(t, []int{2, 4}, []int{2, 3, 4, 5, 6}, []int{0, 1, 2, 3, 4}, []int{-1, -1, 0, 1, 0, 2, 1})
	ahead.told(t, []int{6}, []int{6}, []int{0, 1, 2, 3, 4, 5, 6}, []int{-1, -1, -1, -1, -1, -1, 0})
	ahead.told(t, []int{5}, []int{5, 6}, []int{0, 1, 2, 3, 5}, []int{-1, -1, -1, -1, -1, 0, 1})
	behind := made(t, []int{1, 2}, []int{3, 6}, []int{6, 3}, []int{4}, []int{5}, []int{6}, nil) // numbers the other way round
	behind.told(t, []int{6}, []int{0, 1, 2, 3, 4, 5, 6}, []int{6}, []int{2, 1, 1, 3, 2, 1, 0})
	behind.told(t, []int{5}, []int{0, 1, 2, 3, 4, 5}, []int{5, 6}, []int{4, 3, 3, 2, 1, 0, -1})
	behind.told(t, []int{5, 1}, []int{0, 1, 2, 3, 4, 5}, []int{1, 3, 4, 5, 6}, []int{1, 0, 3, 2, 1, 0, -1})
	diamond := made(t, nil, []int{0}, []int{0}, []int{2, 1}, []int{3}, []int{4, 2})
	diamond.told(t, []int{0}, []int{0, 1, 2, 3, 4, 5}, []int{0}, []int{0, 1, 1, 2, 3, 2})
	diamond.told(t, []int{1}, []int{1, 3, 4, 5}, []int{0, 1}, []int{-1, 0, -1, 1, 2, 3})
	diamond.told(t, []int{3}, []int{3, 4, 5}, []int{0, 1, 2, 3}, []int{-1, -1, -1, 0, 1, 2})
	diamond.told(t, []int{0, 3}, []int{0, 1, 2, 3, 4, 5}, []int{0, 1, 2, 3}, []int{0, 1, 1, 0, 1, 2})
	for _, b := range []*both{ahead, behind, diamond} {
		b.askAll(t)
	}
}

// P13.1, P13.2: circles, with nodes of from in them, ahead of them and behind them.
func TestCircles(t *testing.T) {
	two := made(t, []int{1}, []int{0})
	two.told(t, []int{0}, []int{0, 1}, []int{0, 1}, []int{0, 1})
	two.told(t, []int{1}, []int{0, 1}, []int{0, 1}, []int{1, 0})
	two.told(t, []int{1, 0}, []int{0, 1}, []int{0, 1}, []int{0, 0})
	b := made(t, nil, []int{0, 4}, []int{1}, []int{2}, []int{3}, []int{3}, []int{5}, nil) // 1, 2, 3, 4 are a circle; 1 reads 0; 5 reads 3, 6 reads 5; 7 is alone
	b.told(t, []int{0}, []int{0, 1, 2, 3, 4, 5, 6}, []int{0}, []int{0, 1, 2, 3, 4, 4, 5, -1})
	b.told(t, []int{1}, []int{1, 2, 3, 4, 5, 6}, []int{0, 1, 2, 3, 4}, []int{-1, 0, 1, 2, 3, 3, 4, -1})
	b.told(t, []int{3}, []int{1, 2, 3, 4, 5, 6}, []int{0, 1, 2, 3, 4}, []int{-1, 2, 3, 0, 1, 1, 2, -1})
	b.told(t, []int{4, 2}, []int{1, 2, 3, 4, 5, 6}, []int{0, 1, 2, 3, 4}, []int{-1, 1, 0, 1, 0, 2, 3, -1})
	b.told(t, []int{5}, []int{5, 6}, []int{0, 1, 2, 3, 4, 5}, []int{-1, -1, -1, -1, -1, 0, 1, -1})
	b.told(t, []int{0, 6}, []int{0, 1, 2, 3, 4, 5, 6}, []int{0, 1, 2, 3, 4, 5, 6}, []int{0, 1, 2, 3, 4, 4, 0, -1})
	b.told(t, []int{7}, []int{7}, []int{7}, []int{-1, -1, -1, -1, -1, -1, -1, 0})
	eight := made(t, []int{1}, []int{2, 3}, []int{0}, []int{4}, []int{1}) // two circles with one node in both
	eight.told(t, []int{0}, []int{0, 1, 2, 3, 4}, []int{0, 1, 2, 3, 4}, []int{0, 2, 1, 4, 3})
	eight.told(t, []int{4}, []int{0, 1, 2, 3, 4}, []int{0, 1, 2, 3, 4}, []int{3, 2, 4, 1, 0})
	apart := made(t, []int{1}, []int{0}, []int{3, 0}, []int{2}) // one circle reads the other one
	apart.told(t, []int{1}, []int{0, 1, 2, 3}, []int{0, 1}, []int{1, 0, 2, 3})
	apart.told(t, []int{3}, []int{2, 3}, []int{0, 1, 2, 3}, []int{-1, -1, 1, 0})
	for _, b := range []*both{two, b, eight, apart} {
		b.askAll(t)
	}
}

// P13.1, P13.2: circles of so many nodes, from one of them and from two.
func TestRings(t *testing.T) {
	for _, nodes := range []int{2, 3, 4, 5, 10, 31} {
		b := made(t, make([][]int, nodes)...)
		for v := range nodes {
			b.set(t, v, (v+1)%nodes)
		}
		b.askAll(t)
		for v := range nodes {
			b.ask(t, v, 0)
			b.ask(t, nodes-1, v, nodes)
		}
	}
}

// P13.1, P13.2: graphs in which each node reads all others, and in which it reads all ahead of it.
func TestFullGraphs(t *testing.T) {
	for _, nodes := range []int{2, 3, 4, 10, 50} {
		full, half := made(t, make([][]int, nodes)...), made(t, make([][]int, nodes)...)
		for v := range nodes {
			var ahead, others []int
			for w := range nodes {
				if w < v {
					ahead = append(ahead, w)
				}
				if w != v {
					others = append(others, w)
				}
			}
			full.set(t, v, others...)
			half.set(t, v, ahead...)
		}
		full.askAll(t)
		half.askAll(t)
		full.ask(t, nodes-1, 0)
		half.ask(t, nodes-1, 0)
	}
}

// rows tells all lists of numbers from lo to hi that have so many.
func rows(many, lo, hi int) [][]int {
	l := [][]int{nil}
	for range many {
		var longer [][]int
		for _, row := range l {
			for n := lo; n <= hi; n++ {
				longer = append(longer, append(slices.Clone(row), n))
			}
		}
		l = longer
	}
	return l
}

// lists tells all lists of nodes that a node may read, in any order.
func lists(nodes, v int) [][]int {
	var l [][]int
	for many := range nodes {
		for _, row := range rows(many, 0, nodes-1) {
			sorted := slices.Sorted(slices.Values(row))
			if !slices.Contains(row, v) && len(slices.Compact(sorted)) == many {
				l = append(l, row)
			}
		}
	}
	return l
}

// P13.1, P13.2: all graphs of up to 3 nodes, whatever the order of their reads, from all lists of up to 3 numbers, of all these nodes and of what is none.
func TestAllSmall(t *testing.T) {
	for nodes := 1; nodes <= 3; nodes++ {
		var froms [][]int
		for many := range 4 {
			froms = append(froms, rows(many, -1, nodes)...)
		}
		several := [][][]int{nil}
		for v := range nodes {
			var longer [][][]int
			for _, reads := range several {
				for _, l := range lists(nodes, v) {
					longer = append(longer, append(slices.Clone(reads), l))
				}
			}
			several = longer
		}
		for _, reads := range several {
			b := made(t, reads...)
			for _, from := range froms {
				b.ask(t, from...)
			}
		}
	}
}

// bitsOf tells the numbers of the bits that are 1.
func bitsOf(x, many int) []int {
	var l []int
	for n := range many {
		if x>>n&1 == 1 {
			l = append(l, n)
		}
	}
	return l
}

// P13.1, P13.2, P13.3, P13.4: all graphs of 4 nodes, from all sets of them.
func TestAllOfFour(t *testing.T) {
	for x := range 1 << 12 {
		b := made(t, make([][]int, 4)...)
		for v := range 4 {
			var reads []int
			for _, w := range bitsOf(x>>(3*v)&7, 3) {
				if w >= v {
					w++ // a node does not read itself
				}
				reads = append(reads, w)
			}
			b.set(t, v, reads...)
		}
		for y := range 1 << 4 {
			from := bitsOf(y, 4)
			b.ask(t, from...)
			closes(t, b, from)
			stepsApart(t, b, from)
		}
		turns(t, b)
	}
}

// closes holds Reach and Needs against the edges alone (P13.3).
func closes(t *testing.T, b *both, from []int) {
	t.Helper()
	reach, needs := b.m.set(Reach(b.g, from)), b.m.set(Needs(b.g, from))
	within := b.m.set(from)
	for v := range b.m {
		readsReached, isRead := false, false
		for w := range b.m {
			readsReached = readsReached || b.g.Has(v, w) && reach[w]
			isRead = isRead || b.g.Has(w, v) && needs[w]
		}
		switch {
		case within[v] && (!reach[v] || !needs[v]):
			t.Fatalf("%v, of %v: %d is in from, and in Reach %v, in Needs %v", b.m, from, v, reach[v], needs[v])
		case !within[v] && reach[v] != readsReached:
			t.Fatalf("%v, of %v: %d is in Reach: %v, and reads one that is: %v", b.m, from, v, reach[v], readsReached)
		case !within[v] && needs[v] != isRead:
			t.Fatalf("%v, of %v: %d is in Needs: %v, and is read by one that is: %v", b.m, from, v, needs[v], isRead)
		}
	}
}

// turns holds Reach and Needs against each other (P13.3).
func turns(t *testing.T, b *both) {
	t.Helper()
	var reach, needs [][]bool
	for v := range b.m {
		reach, needs = append(reach, b.m.set(Reach(b.g, []int{v}))), append(needs, b.m.set(Needs(b.g, []int{v})))
	}
	for v := range b.m {
		for w := range b.m {
			if reach[w][v] != needs[v][w] {
				t.Fatalf("%v: %d in Reach of %d: %v; %d in Needs of %d: %v", b.m, v, w, reach[w][v], w, v, needs[v][w])
			}
		}
	}
}

// stepsApart holds Steps against the edges and against Reach: from what is read to who reads it there is at most 1 more (P13.4).
func stepsApart(t *testing.T, b *both, from []int) {
	t.Helper()
	steps := Steps(b.g, from)
	if len(steps) != b.g.Nodes() {
		t.Fatalf("%v, Steps of %v: %v", b.m, from, steps)
	}
	reach := b.m.set(Reach(b.g, from))
	for v := range b.m {
		if steps[v] < -1 || steps[v] >= len(steps) || steps[v] >= 0 != reach[v] {
			t.Fatalf("%v, of %v: %d is in Reach: %v, Steps %d", b.m, from, v, reach[v], steps[v])
		}
		for _, w := range b.m[v] {
			if reach[w] && (steps[v] < 0 || steps[v] > steps[w]+1) {
				t.Fatalf("%v, Steps of %v: %d reads %d, and is %d off, not %d", b.m, from, v, w, steps[v], steps[w])
			}
		}
	}
}

// P13.1: what is told rises, each once, whatever the order in which it is reached.
func TestRise(t *testing.T) {
	draw := rand.New(rand.NewSource(131)) // the same each time
	for _, nodes := range []int{2, 10, 100, 1000} {
		perm := draw.Perm(nodes)
		chain, star, sink := made(t, make([][]int, nodes)...), made(t, make([][]int, nodes)...), made(t, make([][]int, nodes)...)
		for at, v := range perm[1:] {
			chain.set(t, v, perm[at])
			star.set(t, v, perm[0])
		}
		sink.set(t, perm[0], perm[1:]...)
		for i, x := range []struct {
			b    *both
			from int
			call func(g *graph.Graph, from []int) []int
		}{
			{chain, perm[0], Reach}, {chain, perm[nodes-1], Needs}, {star, perm[0], Reach}, {sink, perm[0], Needs},
		} {
			l := x.call(x.b.g, []int{x.from})
			if len(l) != nodes || l[0] != 0 || l[nodes-1] != nodes-1 {
				t.Fatalf("of %d nodes, %d: %d are told", nodes, i, len(l))
			}
			for at := range l[1:] {
				if l[at] >= l[at+1] {
					t.Fatalf("of %d nodes, %d: %d ahead of %d", nodes, i, l[at], l[at+1])
				}
			}
		}
		if nodes <= 100 {
			chain.askAll(t)
			star.askAll(t)
			sink.askAll(t)
		}
	}
}

// upTo tells the numbers from lo to hi.
func upTo(lo, hi int) []int {
	var l []int
	for n := lo; n <= hi; n++ {
		l = append(l, n)
	}
	return l
}

// P13.1, P13.2: the greatest graph, as one chain, as two of them that turn round, and as one circle.
func TestGreatest(t *testing.T) {
	const nodes = api.MaxCells
	b := made(t, make([][]int, nodes)...)
	for v := 1; v < nodes; v++ {
		b.set(t, v, v-1)
	}
	all, none := upTo(0, nodes-1), slices.Repeat([]int{-1}, nodes)
	b.just(t, []int{0}, all, []int{0}, all)
	b.just(t, []int{nodes - 1}, []int{nodes - 1}, all, append(slices.Clone(none[1:]), 0))
	b.just(t, []int{7000, nodes}, all[7000:], all[:7001], append(slices.Clone(none[:7000]), upTo(0, nodes-7001)...))
	b.just(t, []int{-1, nodes, most, least}, nil, nil, none)
	b.just(t, nil, nil, nil, none)
	b.just(t, all, all, all, make([]int, nodes))
	b.set(t, 0, nodes-1) // a circle
	b.just(t, []int{0}, all, all, all)
	b.just(t, []int{1}, all, all, append([]int{nodes - 1}, all[:nodes-1]...))
	b.set(t, 10000) // one chain, which begins in the middle
	b.just(t, []int{10000}, all, []int{10000}, append(upTo(10000, nodes-1), all[:10000]...))
	b.just(t, []int{9999}, []int{9999}, all, slices.Concat(none[:9999], []int{0}, none[10000:]))
	for v := range nodes { // and the other way round
		b.set(t, v, upTo(v+1, min(v+1, nodes-1))...)
	}
	falling := slices.Clone(all)
	slices.Reverse(falling)
	b.just(t, []int{nodes - 1}, all, []int{nodes - 1}, falling)
	b.just(t, []int{0}, []int{0}, all, append([]int{0}, none[1:]...))
}

// P13.1, P13.2: the greatest graph, of which one node reads all others, and which all others read.
func TestGreatStars(t *testing.T) {
	const nodes = api.MaxCells
	all, ones := upTo(0, nodes-1), slices.Repeat([]int{1}, nodes)
	ones[5] = 0
	b, others := made(t, make([][]int, nodes)...), slices.Delete(upTo(0, nodes-1), 5, 6)
	b.set(t, 5, others...)
	b.just(t, []int{5}, []int{5}, all, slices.Concat([]int{-1, -1, -1, -1, -1, 0}, slices.Repeat([]int{-1}, nodes-6)))
	b.just(t, []int{0}, []int{0, 5}, []int{0}, slices.Concat([]int{0, -1, -1, -1, -1, 1}, slices.Repeat([]int{-1}, nodes-6)))
	b.set(t, 5)
	for _, v := range others {
		b.set(t, v, 5)
	}
	b.just(t, []int{5}, all, []int{5}, ones)
	b.set(t, 5, 19000)
	b.just(t, []int{5}, all, []int{5, 19000}, ones)
	twos := slices.Repeat([]int{2}, nodes)
	twos[5], twos[19000] = 1, 0
	b.just(t, []int{19000}, all, []int{5, 19000}, twos)
}

// just is told without the look at the words, for graphs that are too great for it.
func (b *both) just(t *testing.T, from, reach, needs, steps []int) {
	t.Helper()
	if l := Reach(b.g, from); !slices.Equal(l, reach) {
		t.Errorf("Reach of %d numbers: %d", len(from), len(l))
	}
	if l := Needs(b.g, from); !slices.Equal(l, needs) {
		t.Errorf("Needs of %d numbers: %d", len(from), len(l))
	}
	if l := Steps(b.g, from); !slices.Equal(l, steps) {
		t.Errorf("Steps of %d numbers: %d, or others", len(from), len(l))
	}
}

// calls are all three, for what holds of each.
func calls() []func(g *graph.Graph, from []int) []int {
	return []func(g *graph.Graph, from []int) []int{Reach, Needs, Steps}
}

// unchanged looks at whether a graph tells what it told.
func (b *both) unchanged(t *testing.T) {
	t.Helper()
	edges := 0
	for v := range b.m {
		var readers []int
		for w := range b.m {
			if slices.Contains(b.m[w], v) {
				readers = append(readers, w)
			}
		}
		if r := b.g.Reads(v); !slices.Equal(r, b.m[v]) {
			t.Fatalf("%d reads %v, not %v", v, r, b.m[v])
		}
		if r := b.g.Readers(v); !slices.Equal(r, readers) {
			t.Fatalf("%d is read by %v, not %v", v, r, readers)
		}
		edges += len(b.m[v])
	}
	if b.g.Edges() != edges || b.g.Nodes() != len(b.m) {
		t.Fatalf("Edges %d, Nodes %d", b.g.Edges(), b.g.Nodes())
	}
}

// Rule 4: the list from, its spare room too, and the graph stay as they were.
func TestLeft(t *testing.T) {
	b := made(t, []int{3, 2}, []int{0}, nil, []int{2, 4}, []int{1}, []int{4, 0})
	roomy := []int{4, 9, 1, 4, -1, 2, -7, -7, -7, -7, -7, -7, -7, -7}
	for n := range 7 {
		for _, call := range calls() {
			was := slices.Clone(roomy)
			call(b.g, roomy[:n])
			call(b.g, roomy[:n:n])
			if !slices.Equal(roomy, was) {
				t.Fatalf("from %v: %v", was[:n], roomy)
			}
			b.unchanged(t)
		}
	}
}

// Rule 4: what was told is new memory: it stays as it was when the graph is changed, or the list from, and others stay when it is changed itself.
func TestToldStays(t *testing.T) {
	b := made(t, []int{3, 2}, []int{0}, nil, []int{2, 4}, []int{1}, []int{4, 0}, nil)
	for _, given := range [][]int{{2}, {0}, {6}, {1, 5}, {6, 0, 3}, {0, 1, 2, 3, 4, 5, 6}} {
		for i, call := range calls() {
			from := slices.Clone(given)
			l, other := call(b.g, from), call(b.g, from)
			was := slices.Clone(l)
			clear(from)
			was2 := b.m[3]
			b.set(t, 3)
			b.set(t, 3, was2...)
			b.set(t, 6, 3, 5)
			if !slices.Equal(l, was) || !slices.Equal(other, was) {
				t.Fatalf("%d, of %v: %v and %v were %v", i, given, l, other, was)
			}
			b.set(t, 6)
			for at := range l {
				l[at] = 99
			}
			_ = append(l, 98, 97)
			if len(l) > 0 {
				_ = append(l[:1], 96)
			}
			if !slices.Equal(other, was) {
				t.Fatalf("%d, of %v, told twice: %v, not %v", i, given, other, was)
			}
			b.unchanged(t)
			b.ask(t, given...)
		}
	}
}

// P13.1, P13.2: what is told hangs on what the graph's nodes read now, and on nothing that was asked ahead of it.
func TestChanges(t *testing.T) {
	b := made(t, nil, []int{0}, []int{1}, []int{2})
	b.told(t, []int{0}, []int{0, 1, 2, 3}, []int{0}, []int{0, 1, 2, 3})
	b.set(t, 3, 2, 0)
	b.told(t, []int{0}, []int{0, 1, 2, 3}, []int{0}, []int{0, 1, 2, 1})
	b.set(t, 1)
	b.told(t, []int{0}, []int{0, 3}, []int{0}, []int{0, -1, -1, 1})
	b.told(t, []int{3}, []int{3}, []int{0, 1, 2, 3}, []int{-1, -1, -1, 0})
	b.set(t, 0, 3)
	b.told(t, []int{2}, []int{0, 2, 3}, []int{1, 2}, []int{2, -1, 0, 1})
	b.set(t, 3)
	b.told(t, []int{2}, []int{2}, []int{1, 2}, []int{-1, -1, 0, -1})
	c := made(t, []int{1}, nil) // and not on another graph
	c.told(t, []int{1}, []int{0, 1}, []int{1}, []int{1, 0})
	b.told(t, []int{1}, []int{1, 2}, []int{1}, []int{-1, 0, 1, -1})
}

// drawnGraph draws a graph, whose nodes read up to so many; if it has to be without circles, only some that stand ahead in an order that is drawn.
func drawnGraph(t *testing.T, draw *rand.Rand, nodes, reads int, circles bool) *both {
	t.Helper()
	b, perm := made(t, make([][]int, nodes)...), draw.Perm(nodes)
	for at, v := range perm {
		among := perm[:at]
		if circles {
			among = slices.Delete(slices.Clone(perm), at, at+1)
		}
		var l []int
		for _, k := range draw.Perm(len(among))[:draw.Intn(min(reads, len(among))+1)] {
			l = append(l, among[k])
		}
		b.set(t, v, l...)
	}
	return b
}

func drawnFrom(draw *rand.Rand, nodes int) []int {
	var from []int
	for range draw.Intn(5) {
		from = append(from, draw.Intn(nodes))
		if draw.Intn(4) == 0 {
			from = append(from, strangers(nodes)[draw.Intn(len(strangers(nodes)))])
		}
		if draw.Intn(4) == 0 {
			from = append(from, from[draw.Intn(len(from))])
		}
	}
	draw.Shuffle(len(from), func(i, j int) { from[i], from[j] = from[j], from[i] })
	return from
}

// P13.1 to P13.4: drawn graphs, with and without circles, against the chapter's words. (The draw is the same each time.)
func TestDrawn(t *testing.T) {
	draw := rand.New(rand.NewSource(13))
	for _, nodes := range []int{2, 3, 5, 8, 20, 60} {
		for _, reads := range []int{1, 2, 3, 8} {
			for _, circles := range []bool{false, true} {
				for range 5 {
					b := drawnGraph(t, draw, nodes, reads, circles)
					for range 20 {
						from := drawnFrom(draw, nodes)
						b.ask(t, from...)
						closes(t, b, from)
						stepsApart(t, b, from)
					}
					turns(t, b)
					b.unchanged(t)
				}
			}
		}
	}
}

// P13.1: Reach and Needs of several nodes are those of each of them, put together. (The draw is the same each time.)
func TestTogether(t *testing.T) {
	draw := rand.New(rand.NewSource(133))
	for range 200 {
		b := drawnGraph(t, draw, 25, 2, true)
		from := drawnFrom(draw, 25)
		var reach, needs []int
		for _, v := range from {
			reach, needs = append(reach, Reach(b.g, []int{v})...), append(needs, Needs(b.g, []int{v})...)
		}
		slices.Sort(reach)
		slices.Sort(needs)
		if l := Reach(b.g, from); !slices.Equal(l, slices.Compact(reach)) {
			t.Fatalf("%v, Reach of %v: %v", b.m, from, l)
		}
		if l := Needs(b.g, from); !slices.Equal(l, slices.Compact(needs)) {
			t.Fatalf("%v, Needs of %v: %v", b.m, from, l)
		}
	}
}

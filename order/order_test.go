package order

import (
	"math"
	"math/rand"
	"slices"
	"testing"

	"gavelkind/api"
	"gavelkind/graph"
)

const most, least = math.MaxInt, math.MinInt

// strangers are no nodes of a graph of so many, though some are as far from one that is as the graph or a number of 32 bits is great.
func strangers(nodes int) []int {
	return []int{-1, nodes, -2, nodes + 1, -nodes, -nodes - 1, 2 * nodes, 20000, 20001, 1 << 31, -1 << 31, 1<<32 - 1, 1 << 32, 1<<32 + nodes - 1, -1 << 32, most, most - 1, least, least + 1, least + nodes - 1}
}

// model is what each node reads: all that is told is worked out of that, by the chapter's words.
type model [][]int

// these are the nodes of a list, rising, each once.
func (m model) these(some []int) []int {
	var l []int
	for v := range m {
		if slices.Contains(some, v) {
			l = append(l, v)
		}
	}
	return l
}

// stands tells whether all of a node's reads among these stand in a list.
func (m model) stands(v int, these, list []int) bool {
	for _, w := range m[v] {
		if slices.Contains(these, w) && !slices.Contains(list, w) {
			return false
		}
	}
	return true
}

func (m model) order(some []int) ([]int, api.Errno) {
	these := m.these(some)
	var l []int
	for len(l) < len(these) {
		at := slices.IndexFunc(these, func(v int) bool { return !slices.Contains(l, v) && m.stands(v, these, l) })
		if at < 0 {
			return nil, api.ErrCircle
		}
		l = append(l, these[at])
	}
	return l, api.OK
}

func (m model) waves(some []int) ([][]int, api.Errno) {
	these := m.these(some)
	var rows [][]int
	var earlier []int
	for len(earlier) < len(these) {
		var row []int
		for _, v := range these {
			if !slices.Contains(earlier, v) && m.stands(v, these, earlier) {
				row = append(row, v)
			}
		}
		if len(row) == 0 {
			return nil, api.ErrCircle
		}
		rows, earlier = append(rows, row), append(earlier, row...)
	}
	return rows, api.OK
}

func sameRows(a, b [][]int) bool { return slices.EqualFunc(a, b, slices.Equal[[]int]) }

// both is a graph and what each of its nodes reads.
type both struct {
	g *graph.Graph
	m model
}

// made makes a graph whose nodes read what stands at their places.
func made(t *testing.T, reads ...[]int) *both {
	t.Helper()
	b := &both{m: slices.Clone(reads)}
	var e api.Errno
	if b.g, e = graph.New(len(reads)); e != api.OK {
		t.Fatalf("New(%d): %v", len(reads), e)
	}
	for v := range reads {
		b.set(t, v, reads[v]...)
	}
	return b
}

func (b *both) set(t *testing.T, v int, reads ...int) {
	t.Helper()
	if _, _, e := b.g.Set(v, reads); e != api.OK {
		t.Fatalf("Set(%d, %v): %v", v, reads, e)
	}
	b.m[v] = slices.Clone(reads)
}

// ask makes all calls, and holds what they tell against the chapter's words.
func (b *both) ask(t *testing.T, some ...int) {
	t.Helper()
	l, e := Order(b.g, some)
	if want, f := b.m.order(some); !slices.Equal(l, want) || e != f {
		t.Fatalf("%v, Order of %v: %v, %v; not %v, %v", b.m, some, l, e, want, f)
	}
	rows, e := Waves(b.g, some)
	if want, f := b.m.waves(some); !sameRows(rows, want) || e != f {
		t.Fatalf("%v, Waves of %v: %v, %v; not %v, %v", b.m, some, rows, e, want, f)
	}
	b.round(t, some)
}

// round holds a Circle against the edges (P14.3), and against whether there has to be one (P14.5).
func (b *both) round(t *testing.T, some []int) {
	t.Helper()
	c := Circle(b.g, some)
	if _, e := Order(b.g, some); (e == api.ErrCircle) != (len(c) > 0) {
		t.Fatalf("%v, of %v: Circle %v, and Order tells %v", b.m, some, c, e)
	}
	if len(c) == 1 {
		t.Fatalf("%v, Circle of %v: %v", b.m, some, c)
	}
	these := b.m.these(some)
	for i, v := range c {
		if !slices.Contains(these, v) || slices.Contains(c[:i], v) {
			t.Fatalf("%v, Circle of %v: %v, with %d", b.m, some, c, v)
		}
		if w := c[(i+1)%len(c)]; !slices.Contains(b.m[v], w) {
			t.Fatalf("%v, Circle of %v: %v, where %d does not read %d", b.m, some, c, v, w)
		}
	}
}

// askAll asks for each node alone, for all of them, for all but one, and for none.
func (b *both) askAll(t *testing.T) {
	t.Helper()
	all := upTo(0, len(b.m)-1)
	b.ask(t)
	b.ask(t, all...)
	for v := range b.m {
		b.ask(t, v)
		b.ask(t, slices.Delete(slices.Clone(all), v, v+1)...)
	}
}

// told makes all calls, and holds what they tell against what is written out.
func (b *both) told(t *testing.T, some, order []int, waves ...[]int) {
	t.Helper()
	b.just(t, some, order, waves...)
	b.ask(t, some...)
}

// just is told without the look at the words, for graphs that are too great for it.
func (b *both) just(t *testing.T, some, order []int, waves ...[]int) {
	t.Helper()
	if l, e := Order(b.g, some); !slices.Equal(l, order) || e != api.OK {
		t.Errorf("Order of %v: %v, %v", short(some), short(l), e)
	}
	if rows, e := Waves(b.g, some); !sameRows(rows, waves) || e != api.OK {
		t.Errorf("Waves of %v: %d rows, %v", short(some), len(rows), e)
	}
	if c := Circle(b.g, some); len(c) != 0 {
		t.Errorf("Circle of %v: %v", short(some), short(c))
	}
}

// stuck makes all calls of nodes among which there is a circle, and looks for the Circle among those that there are, each written from its least node on.
func (b *both) stuck(t *testing.T, some []int, circles ...[]int) {
	t.Helper()
	if l, e := Order(b.g, some); l != nil || e != api.ErrCircle {
		t.Errorf("Order of %v: %v, %v", short(some), short(l), e)
	}
	if rows, e := Waves(b.g, some); rows != nil || e != api.ErrCircle {
		t.Errorf("Waves of %v: %d rows, %v", short(some), len(rows), e)
	}
	c := Circle(b.g, some)
	if !slices.ContainsFunc(circles, func(x []int) bool { return slices.Equal(x, turned(c)) }) {
		t.Errorf("Circle of %v: %v", short(some), short(c))
	}
}

// turned tells a circle from its least node on.
func turned(c []int) []int {
	if len(c) == 0 {
		return nil
	}
	at := slices.Index(c, slices.Min(c))
	return slices.Concat(c[at:], c[:at])
}

// short is a list that may be long, for a message.
func short(l []int) []int { return l[:min(len(l), 12)] }

// upTo tells the numbers from lo to hi.
func upTo(lo, hi int) []int {
	var l []int
	for n := lo; n <= hi; n++ {
		l = append(l, n)
	}
	return l
}

// falling tells the numbers from hi down to lo.
func falling(hi, lo int) []int {
	l := upTo(lo, hi)
	slices.Reverse(l)
	return l
}

// singles tells rows of one node each.
func singles(l []int) [][]int {
	var rows [][]int
	for _, v := range l {
		rows = append(rows, []int{v})
	}
	return rows
}

// P14.1, P14.2, P14.3: of a nil graph, and of a plain one, nothing, whatever it is asked, and no fault.
func TestNoGraph(t *testing.T) {
	for i, g := range []*graph.Graph{nil, {}, new(graph.Graph)} {
		for _, some := range [][]int{nil, {}, {0}, {1}, {0, 0}, {0, 1, 2}, {-1}, {most}, {least}, strangers(0), strangers(1), make([]int, 1000)} {
			if l, e := Order(g, some); len(l) != 0 || e != api.OK {
				t.Errorf("%d: Order of %v: %v, %v", i, some, l, e)
			}
			if rows, e := Waves(g, some); len(rows) != 0 || e != api.OK {
				t.Errorf("%d: Waves of %v: %v, %v", i, some, rows, e)
			}
			if c := Circle(g, some); len(c) != 0 {
				t.Errorf("%d: Circle of %v: %v", i, some, c)
			}
		}
	}
}

// P14.1, P14.2: the chapter's example, and parts of it.
func TestExample(t *testing.T) {
	b := made(t, []int{2}, nil, nil)
	b.told(t, []int{0, 1, 2}, []int{1, 2, 0}, []int{1, 2}, []int{0})
	b.told(t, []int{2, 0}, []int{2, 0}, []int{2}, []int{0})
	b.told(t, []int{1, 0}, []int{0, 1}, []int{0, 1})
	b.set(t, 2, 0)
	b.stuck(t, []int{0, 1, 2}, []int{0, 2})
	b.told(t, []int{1, 2}, []int{1, 2}, []int{1, 2})
}

// P14.1, P14.2: which numbers are in some, how often, and in which order.
func TestSome(t *testing.T) {
	b := made(t, []int{2}, []int{0, 3}, nil, []int{4}, nil, []int{1, 0}, nil) // 2, 0, and 4, 3, then 1, then 5; 6 is alone
	b.told(t, nil, nil)
	b.told(t, []int{}, nil)
	for v := range 7 {
		b.told(t, []int{v}, []int{v}, []int{v})
		b.told(t, []int{v, v}, []int{v}, []int{v})
		b.told(t, []int{v, v, v, v, v, v, v, v, v}, []int{v}, []int{v})
	}
	b.told(t, []int{0, 2}, []int{2, 0}, []int{2}, []int{0})
	b.told(t, []int{2, 0}, []int{2, 0}, []int{2}, []int{0})
	b.told(t, []int{0, 2, 0, 0, 2, 0}, []int{2, 0}, []int{2}, []int{0})
	b.told(t, []int{5, 1, 3}, []int{3, 1, 5}, []int{3}, []int{1}, []int{5})
	b.told(t, []int{3, 5, 3, 1, 5, 1}, []int{3, 1, 5}, []int{3}, []int{1}, []int{5})
	order, rows := []int{2, 0, 4, 3, 1, 5, 6}, [][]int{{2, 4, 6}, {0, 3}, {1}, {5}}
	b.told(t, []int{0, 1, 2, 3, 4, 5, 6}, order, rows...)
	b.told(t, []int{6, 5, 4, 3, 2, 1, 0}, order, rows...)
	b.told(t, []int{5, 0, 6, 2, 4, 1, 3}, order, rows...)
	b.told(t, []int{3, 0, 6, 0, 1, 3, 5, 2, 4, 3, 6}, order, rows...)
	b.just(t, slices.Repeat([]int{0, 4, 2}, 100000), []int{2, 0, 4}, []int{2, 4}, []int{0})
	b.just(t, append(slices.Repeat([]int{0, -1, 7}, 100000), 2, 4), []int{2, 0, 4}, []int{2, 4}, []int{0})
}

// P14.1, P14.2, P14.3: numbers that are no nodes play no part, alone and beside nodes, at each place.
func TestStrangers(t *testing.T) {
	for _, nodes := range []int{1, 2, 3, 5, 64} {
		b := made(t, make([][]int, nodes)...)
		for v := range nodes - 1 {
			b.set(t, v, v+1)
		}
		strange := slices.DeleteFunc(strangers(nodes), func(n int) bool { return n >= 0 && n < nodes })
		b.told(t, strange, nil)
		for _, n := range strange {
			b.told(t, []int{n}, nil)
			b.told(t, []int{n, n}, nil)
			for _, some := range [][]int{{0}, {nodes - 1}, {nodes / 2}, {0, nodes - 1}, {0, 1, nodes / 2}} {
				order, _ := Order(b.g, some)
				rows, _ := Waves(b.g, some)
				for at := range len(some) + 1 {
					b.told(t, slices.Insert(slices.Clone(some), at, n), order, rows...)
					b.told(t, slices.Insert(slices.Clone(some), at, strange...), order, rows...)
				}
			}
		}
	}
	b := made(t, []int{1}, []int{0}, []int{0}, nil)
	for _, n := range []int{-1, 4, most, least} {
		for at := range 4 {
			b.stuck(t, slices.Insert([]int{2, 1, 0}, at, n), []int{0, 1})
			b.told(t, slices.Insert([]int{2, 3, 0}, at, n), []int{0, 2, 3}, []int{0, 3}, []int{2})
		}
	}
}

// P14.1, P14.2, P14.3: a graph of one node, and some in which none reads any.
func TestNoReads(t *testing.T) {
	one := made(t, nil)
	one.told(t, nil, nil)
	one.told(t, []int{0}, []int{0}, []int{0})
	one.told(t, []int{0, 0, 1, 0, -1}, []int{0}, []int{0})
	one.told(t, []int{1}, nil)
	one.told(t, []int{-1}, nil)
	for _, nodes := range []int{2, 3, 10, 100} {
		b := made(t, make([][]int, nodes)...)
		b.askAll(t)
		all := upTo(0, nodes-1)
		b.told(t, all, all, all)
		b.told(t, falling(nodes-1, 0), all, all)
		even := slices.DeleteFunc(upTo(0, nodes-1), func(v int) bool { return v%2 == 1 })
		b.told(t, slices.Concat(even, even, []int{nodes}), even, even)
	}
}

// P14.1, P14.2: what a node reads that is not among these plays no part, nor does what leads from one of them to another one by way of that.
func TestOutside(t *testing.T) {
	b := made(t, []int{1}, []int{2}, []int{3}, []int{4}, nil)
	b.told(t, []int{0, 2, 4}, []int{0, 2, 4}, []int{0, 2, 4})
	b.told(t, []int{0, 1, 3, 4}, []int{1, 0, 4, 3}, []int{1, 4}, []int{0, 3})
	b.told(t, []int{1, 2, 4}, []int{2, 1, 4}, []int{2, 4}, []int{1})
	b.told(t, []int{3}, []int{3}, []int{3})
	several := made(t, []int{5, 3, 4, 1, 2}, nil, []int{1}, []int{6, 2}, []int{7, 6, 5}, nil, nil, []int{1})
	several.told(t, []int{0, 4}, []int{4, 0}, []int{4}, []int{0})
	several.told(t, []int{0, 6, 7}, []int{0, 6, 7}, []int{0, 6, 7})
	several.told(t, []int{0, 3, 1, 7}, []int{1, 3, 0, 7}, []int{1, 3}, []int{0, 7})
	several.told(t, []int{0, 3, 4, 6}, []int{6, 3, 4, 0}, []int{6}, []int{3, 4}, []int{0})
	several.told(t, []int{2, 3, 4, 5, 0}, []int{2, 3, 5, 4, 0}, []int{2, 5}, []int{3, 4}, []int{0})
	several.askAll(t)
}

// P14.1, P14.2: chains in the order of the numbers, against it, and in none.
func TestChains(t *testing.T) {
	up := made(t, nil, []int{0}, []int{1}, []int{2}, []int{3})
	up.told(t, falling(4, 0), upTo(0, 4), singles(upTo(0, 4))...)
	up.told(t, upTo(0, 4), upTo(0, 4), singles(upTo(0, 4))...)
	down := made(t, []int{1}, []int{2}, []int{3}, []int{4}, nil)
	down.told(t, falling(4, 0), falling(4, 0), singles(falling(4, 0))...)
	down.told(t, upTo(0, 4), falling(4, 0), singles(falling(4, 0))...)
	mixed := made(t, []int{3}, []int{4}, nil, []int{1}, []int{2})
	mixed.told(t, upTo(0, 4), []int{2, 4, 1, 3, 0}, singles([]int{2, 4, 1, 3, 0})...)
	mixed.told(t, []int{0, 1, 2, 3}, []int{1, 2, 3, 0}, []int{1, 2}, []int{3}, []int{0})
	for _, b := range []*both{up, down, mixed} {
		b.askAll(t)
	}
}

// P14.1, P14.2: nodes that read several, and chains that meet: a node waits for the last of what it reads, wherever that stands.
func TestSeveral(t *testing.T) {
	for _, reads := range [][]int{{0, 3, 4}, {0, 4, 3}, {3, 0, 4}, {3, 4, 0}, {4, 0, 3}, {4, 3, 0}} {
		b := made(t, nil, reads, []int{0}, []int{2}, []int{3}, []int{1, 0})
		b.told(t, upTo(0, 5), []int{0, 2, 3, 4, 1, 5}, singles([]int{0, 2, 3, 4, 1, 5})...)
		b.told(t, []int{5, 4, 1, 0}, []int{0, 4, 1, 5}, []int{0, 4}, []int{1}, []int{5})
		b.told(t, []int{1, 3, 2, 5}, []int{2, 3, 1, 5}, []int{2}, []int{3}, []int{1}, []int{5})
		b.askAll(t)
	}
	two := made(t, []int{1}, []int{2}, nil, []int{4}, []int{5}, []int{6}, nil, []int{0, 3}, []int{7, 2}) // 2, 1, 0, and 6, 5, 4, 3, then 7, then 8
	two.told(t, upTo(0, 8), []int{2, 1, 0, 6, 5, 4, 3, 7, 8}, []int{2, 6}, []int{1, 5}, []int{0, 4}, []int{3}, []int{7}, []int{8})
	two.told(t, []int{8, 7, 3, 0}, []int{0, 3, 7, 8}, []int{0, 3}, []int{7}, []int{8})
	two.askAll(t)
	square := made(t, []int{1, 2}, []int{3}, []int{3}, nil, []int{1, 2}, []int{0, 4})
	square.told(t, upTo(0, 5), []int{3, 1, 2, 0, 4, 5}, []int{3}, []int{1, 2}, []int{0, 4}, []int{5})
	square.askAll(t)
}

// P14.1: at each place the least one of those that are ready, also where one becomes ready that is less than others that were ready already.
func TestLeast(t *testing.T) {
	b := made(t, []int{5}, nil, nil, []int{2}, nil, []int{3}, nil, []int{1}, []int{4})
	b.told(t, upTo(0, 8), []int{1, 2, 3, 4, 5, 0, 6, 7, 8}, []int{1, 2, 4, 6}, []int{3, 7, 8}, []int{5}, []int{0})
	b.told(t, []int{0, 5, 6, 7, 8}, []int{5, 0, 6, 7, 8}, []int{5, 6, 7, 8}, []int{0})
	back := made(t, []int{9}, []int{8}, []int{7}, []int{6}, []int{5}, nil, nil, nil, nil, nil)
	back.told(t, upTo(0, 9), []int{5, 4, 6, 3, 7, 2, 8, 1, 9, 0}, upTo(5, 9), upTo(0, 4))
	back.told(t, []int{0, 2, 4, 5, 7, 9, 8}, []int{5, 4, 7, 2, 8, 9, 0}, []int{5, 7, 8, 9}, []int{0, 2, 4})
	star := made(t, []int{5}, []int{5}, []int{5}, nil, nil, nil, nil, []int{5}, nil, []int{5}) // some that become ready at once, less and greater than those that are
	star.told(t, upTo(0, 9), []int{3, 4, 5, 0, 1, 2, 6, 7, 8, 9}, []int{3, 4, 5, 6, 8}, []int{0, 1, 2, 7, 9})
	for _, x := range []*both{b, back, star} {
		x.askAll(t)
	}
}

// P14.2: each node stands in the first row that may be, and no row tells of a node that the row itself made ready.
func TestRows(t *testing.T) {
	b := made(t, nil, []int{0}, []int{0, 1}, []int{0, 1, 2}, []int{0}, []int{4}, nil, []int{6, 3})
	b.told(t, upTo(0, 7), upTo(0, 7), []int{0, 6}, []int{1, 4}, []int{2, 5}, []int{3}, []int{7})
	b.told(t, []int{7, 5, 4, 3, 2, 1}, []int{1, 2, 3, 4, 5, 7}, []int{1, 4}, []int{2, 5}, []int{3}, []int{7})
	b.told(t, []int{7, 5, 4, 2, 1, 6}, []int{1, 2, 4, 5, 6, 7}, []int{1, 4, 6}, []int{2, 5, 7})
	b.askAll(t)
	wide := made(t, []int{10}, []int{11}, []int{10}, []int{11, 10}, []int{9}, []int{0}, []int{8, 11}, []int{5, 1}, nil, nil, nil, nil)
	wide.told(t, upTo(0, 11), []int{8, 9, 4, 10, 0, 2, 5, 11, 1, 3, 6, 7}, []int{8, 9, 10, 11}, []int{0, 1, 2, 3, 4, 6}, []int{5}, []int{7})
	wide.askAll(t)
}

// P14.1, P14.2, P14.3: circles of two and more nodes, with nodes ahead of them and behind them.
func TestCircles(t *testing.T) {
	two := made(t, []int{1}, []int{0})
	two.stuck(t, []int{0, 1}, []int{0, 1})
	two.stuck(t, []int{1, 0, 1, 1}, []int{0, 1})
	two.told(t, []int{1}, []int{1}, []int{1})
	two.told(t, []int{0, 2}, []int{0}, []int{0})
	ahead := made(t, nil, []int{2, 0}, []int{3}, []int{1}, []int{3}, []int{4}, []int{0}) // 0 and 6 ahead of 1, 2, 3, and 4, 5 behind
	ahead.stuck(t, upTo(0, 6), []int{1, 2, 3})
	ahead.stuck(t, []int{5, 4, 3, 2, 1}, []int{1, 2, 3})
	ahead.stuck(t, []int{3, 2, 1}, []int{1, 2, 3})
	ahead.told(t, []int{0, 1, 2, 4, 5, 6}, []int{0, 2, 1, 4, 5, 6}, []int{0, 2, 4}, []int{1, 5, 6})
	ahead.told(t, []int{5, 4, 3, 1}, []int{1, 3, 4, 5}, []int{1}, []int{3}, []int{4}, []int{5})
	long := made(t, []int{9, 1}, nil, []int{0}, []int{2}, []int{8, 1}, []int{4}, []int{3, 5}, []int{6}, []int{7}, []int{7}) // 7, 6, 3, 2, 0, 9 and 7, 6, 5, 4, 8
	long.stuck(t, upTo(0, 9), []int{0, 9, 7, 6, 3, 2}, []int{4, 8, 7, 6, 5})
	long.stuck(t, []int{0, 2, 3, 4, 6, 7, 8, 9}, []int{0, 9, 7, 6, 3, 2})
	long.stuck(t, []int{2, 3, 4, 5, 6, 7, 8, 9}, []int{4, 8, 7, 6, 5})
	long.told(t, []int{0, 2, 3, 4, 5, 6, 8, 9}, []int{8, 4, 5, 9, 0, 2, 3, 6}, []int{8, 9}, []int{0, 4}, []int{2, 5}, []int{3}, []int{6})
	for _, b := range []*both{two, ahead, long} {
		b.askAll(t)
	}
}

// P14.3: two circles apart, and with nodes in common; any of them may be told, but of those that are among these.
func TestTwoCircles(t *testing.T) {
	apart := made(t, []int{2}, []int{3}, []int{0}, []int{4}, []int{1}, []int{0, 1}, nil)
	apart.stuck(t, upTo(0, 6), []int{0, 2}, []int{1, 3, 4})
	apart.stuck(t, []int{6, 5, 4, 3, 2, 1}, []int{1, 3, 4})
	apart.stuck(t, []int{6, 5, 4, 0, 2, 1}, []int{0, 2})
	apart.told(t, []int{6, 5, 4, 1, 2}, []int{1, 2, 4, 5, 6}, []int{1, 2, 6}, []int{4, 5})
	apart.told(t, []int{6, 5, 4, 3, 0}, []int{0, 4, 3, 5, 6}, []int{0, 4, 6}, []int{3, 5})
	one := made(t, []int{1, 2}, []int{0}, []int{3}, []int{0}, []int{0}) // 0 in common
	one.stuck(t, upTo(0, 4), []int{0, 1}, []int{0, 2, 3})
	one.stuck(t, []int{0, 4, 2, 3}, []int{0, 2, 3})
	one.stuck(t, []int{0, 3, 1}, []int{0, 1})
	one.told(t, []int{1, 2, 3, 4}, []int{1, 3, 2, 4}, []int{1, 3, 4}, []int{2})
	edge := made(t, []int{1}, []int{3, 2}, []int{0}, []int{4}, []int{0}) // 0 to 1 in common
	edge.stuck(t, upTo(0, 4), []int{0, 1, 3, 4}, []int{0, 1, 2})
	edge.stuck(t, upTo(0, 3), []int{0, 1, 2})
	edge.stuck(t, []int{4, 3, 1, 0}, []int{0, 1, 3, 4})
	edge.told(t, []int{0, 2, 3, 4}, []int{0, 2, 4, 3}, []int{0}, []int{2, 4}, []int{3})
	chain := made(t, []int{1}, []int{0, 2}, []int{3}, []int{2, 4}, []int{5}, []int{4}) // three, each of which reads the next one
	chain.stuck(t, upTo(0, 5), []int{0, 1}, []int{2, 3}, []int{4, 5})
	chain.stuck(t, []int{0, 1, 2, 4}, []int{0, 1})
	chain.stuck(t, []int{0, 2, 3, 4}, []int{2, 3})
	chain.stuck(t, []int{0, 2, 4, 5}, []int{4, 5})
	for _, b := range []*both{apart, one, edge, chain} {
		b.askAll(t)
	}
}

// P14.1, P14.2, P14.3: circles of so many nodes, in either direction, and without one of their nodes.
func TestRings(t *testing.T) {
	for _, nodes := range []int{2, 3, 4, 5, 10, 31} {
		up, down := made(t, make([][]int, nodes)...), made(t, make([][]int, nodes)...)
		for v := range nodes {
			up.set(t, v, (v+1)%nodes)
			down.set(t, (v+1)%nodes, v)
		}
		all := upTo(0, nodes-1)
		up.stuck(t, all, all)
		down.stuck(t, all, turned(falling(nodes-1, 0)))
		up.askAll(t)
		down.askAll(t)
		up.told(t, all[1:], falling(nodes-1, 1), singles(falling(nodes-1, 1))...)
		down.told(t, all[1:], all[1:], singles(all[1:])...)
	}
}

// P14.1, P14.2, P14.3: graphs in which each node reads all others, and in which it reads all ahead of it.
func TestFullGraphs(t *testing.T) {
	for _, nodes := range []int{2, 3, 4, 10, 50} {
		full, half := made(t, make([][]int, nodes)...), made(t, make([][]int, nodes)...)
		for v := range nodes {
			full.set(t, v, slices.Concat(upTo(0, v-1), upTo(v+1, nodes-1))...)
			half.set(t, v, falling(nodes-1, v+1)...)
		}
		full.askAll(t)
		half.askAll(t)
		half.told(t, upTo(0, nodes-1), falling(nodes-1, 0), singles(falling(nodes-1, 0))...)
	}
}

// rows tells all lists of numbers from lo to hi that have so many.
func rows(many, lo, hi int) [][]int {
	l := [][]int{nil}
	for range many {
		var longer [][]int
		for _, row := range l {
			for n := lo; n <= hi; n++ {
				longer = append(longer, append(slices.Clone(row), n))
			}
		}
		l = longer
	}
	return l
}

// lists tells all lists of nodes that a node may read, in any order.
func lists(nodes, v int) [][]int {
	var l [][]int
	for many := range nodes {
		for _, row := range rows(many, 0, nodes-1) {
			sorted := slices.Sorted(slices.Values(row))
			if !slices.Contains(row, v) && len(slices.Compact(sorted)) == many {
				l = append(l, row)
			}
		}
	}
	return l
}

// P14.1, P14.2, P14.3: all graphs of up to 3 nodes, whatever the order of their reads, and all lists of up to 3 numbers, of all these nodes and of what is none.
func TestAllSmall(t *testing.T) {
	for nodes := 1; nodes <= 3; nodes++ {
		var somes [][]int
		for many := range 4 {
			somes = append(somes, rows(many, -1, nodes)...)
		}
		several := [][][]int{nil}
		for v := range nodes {
			var longer [][][]int
			for _, reads := range several {
				for _, l := range lists(nodes, v) {
					longer = append(longer, append(slices.Clone(reads), l))
				}
			}
			several = longer
		}
		for _, reads := range several {
			b := made(t, reads...)
			for _, some := range somes {
				b.ask(t, some...)
			}
		}
	}
}

// bitsOf tells the numbers of the bits that are 1.
func bitsOf(x, many int) []int {
	var l []int
	for n := range many {
		if x>>n&1 == 1 {
			l = append(l, n)
		}
	}
	return l
}

// P14.1 to P14.5: all graphs of 4 nodes, and all sets of them.
func TestAllOfFour(t *testing.T) {
	for x := range 1 << 12 {
		b := made(t, make([][]int, 4)...)
		for v := range 4 {
			var reads []int
			for _, w := range bitsOf(x>>(3*v)&7, 3) {
				if w >= v {
					w++ // a node does not read itself
				}
				reads = append(reads, w)
			}
			b.set(t, v, reads...)
		}
		for y := range 1 << 4 {
			some := bitsOf(y, 4)
			b.ask(t, some...)
			stand(t, b, some)
		}
	}
}

// P14.1, P14.2: all graphs of 5 nodes without a circle whose nodes read some that are ahead in one order, of all such orders.
func TestAllOrders(t *testing.T) {
	for _, perm := range lists(6, 5) {
		if len(perm) < 5 {
			continue
		}
		for x := 0; x < 1<<10; x += 3 { // each third one, as that takes long
			b := made(t, make([][]int, 5)...)
			for at, v := range perm {
				var reads []int
				for _, k := range bitsOf(x>>(at*(at-1)/2), at) {
					reads = append(reads, perm[k])
				}
				b.set(t, v, reads...)
			}
			b.ask(t, 0, 1, 2, 3, 4)
			if _, e := Order(b.g, []int{0, 1, 2, 3, 4}); e != api.OK {
				t.Fatalf("%v: %v", b.m, e)
			}
		}
	}
}

// stand holds Order and Waves against the edges and against each other (P14.4), and looks at whether there is a Circle just if there are none (P14.5).
func stand(t *testing.T, b *both, some []int) {
	t.Helper()
	l, e := Order(b.g, some)
	rows, f := Waves(b.g, some)
	c := Circle(b.g, some)
	if e != f || (e == api.ErrCircle) != (len(c) > 0) || e != api.OK && e != api.ErrCircle {
		t.Fatalf("%v, of %v: Order %v, Waves %v, Circle %v", b.m, some, e, f, c)
	}
	if e != api.OK {
		if l != nil || rows != nil {
			t.Fatalf("%v, of %v, beside %v: Order %v, Waves %v", b.m, some, e, l, rows)
		}
		return
	}
	these := b.m.these(some)
	if !slices.Equal(slices.Sorted(slices.Values(l)), these) || !slices.Equal(slices.Sorted(slices.Values(slices.Concat(rows...))), these) {
		t.Fatalf("%v, of %v: Order %v, Waves %v", b.m, some, l, rows)
	}
	for i, v := range l {
		for _, w := range l[i+1:] {
			if b.g.Has(v, w) {
				t.Fatalf("%v, Order of %v: %v, where %d reads %d", b.m, some, l, v, w)
			}
		}
	}
	for i, row := range rows {
		rowStands(t, b, rows, i)
		if len(row) == 0 || !slices.IsSorted(row) {
			t.Fatalf("%v, Waves of %v: %v", b.m, some, rows)
		}
	}
}

// rowStands looks at whether each node of a row reads one of the row ahead, and none of its own row or of one behind.
func rowStands(t *testing.T, b *both, rows [][]int, i int) {
	t.Helper()
	for _, v := range rows[i] {
		reads := func(w int) bool { return b.g.Has(v, w) }
		if i > 0 && !slices.ContainsFunc(rows[i-1], reads) {
			t.Fatalf("%v, Waves %v: %d reads none of the row ahead", b.m, rows, v)
		}
		if slices.ContainsFunc(slices.Concat(rows[i:]...), reads) {
			t.Fatalf("%v, Waves %v: %d reads one that does not stand ahead", b.m, rows, v)
		}
	}
}

// P14.1, P14.2, P14.3: the greatest graph, as one chain in the order of the numbers, against it and in none, and as one circle.
func TestGreatest(t *testing.T) {
	const nodes = api.MaxCells
	b := made(t, make([][]int, nodes)...)
	all, back := upTo(0, nodes-1), falling(nodes-1, 0)
	b.just(t, back, all, all)
	for v := 1; v < nodes; v++ {
		b.set(t, v, v-1)
	}
	b.just(t, all, all, singles(all)...)
	b.just(t, back, all, singles(all)...)
	b.just(t, slices.Concat(all, []int{-1, nodes, most, least}, back), all, singles(all)...)
	b.just(t, slices.Concat(all[:7000], all[7001:]), slices.Concat(all[:7000], all[7001:]), b.twoChains(7000)...)
	b.just(t, []int{nodes - 1}, []int{nodes - 1}, []int{nodes - 1})
	b.just(t, []int{-1, nodes, most, least}, nil)
	b.just(t, nil, nil)
	b.set(t, 0, nodes-1) // a circle
	b.stuck(t, all, turned(back))
	b.stuck(t, back, turned(back))
	b.just(t, all[1:], all[1:], singles(all[1:])...)
	turnedAll := slices.Concat(all[10000:], all[:10000])
	b.just(t, slices.Concat(all[:9999], all[10000:]), turnedAll[:len(turnedAll)-1], singles(turnedAll[:len(turnedAll)-1])...)
	b.set(t, 10000) // one chain, which begins in the middle
	b.just(t, all, turnedAll, singles(turnedAll)...)
	for v := range nodes { // and the other way round
		b.set(t, v, upTo(v+1, min(v+1, nodes-1))...)
	}
	b.just(t, all, back, singles(back)...)
	b.set(t, nodes-1, 0)
	b.stuck(t, all, all)
	b.set(t, nodes-1, nodes-2) // a circle of two, and all others behind it
	b.stuck(t, all, []int{nodes - 2, nodes - 1})
	b.stuck(t, back, []int{nodes - 2, nodes - 1})
	b.set(t, 12000, 11000) // and a long one in the middle
	b.stuck(t, all, all[11000:12001], []int{nodes - 2, nodes - 1})
	b.stuck(t, all[:nodes-1], all[11000:12001])
}

// twoChains tells the rows of a chain in the order of the numbers without one of its nodes.
func (b *both) twoChains(without int) [][]int {
	var rows [][]int
	for at := range max(without, len(b.m)-without-1) {
		var row []int
		if at < without {
			row = append(row, at)
		}
		if v := without + 1 + at; v < len(b.m) {
			row = append(row, v)
		}
		rows = append(rows, row)
	}
	return rows
}

// P14.1, P14.2, P14.3: the greatest graph, of which one node reads all others, which all others read, and both.
func TestGreatStars(t *testing.T) {
	const nodes = api.MaxCells
	all, others := upTo(0, nodes-1), slices.Delete(upTo(0, nodes-1), 5, 6)
	b := made(t, make([][]int, nodes)...)
	b.set(t, 5, others...)
	b.just(t, all, slices.Concat(others, []int{5}), others, []int{5})
	b.just(t, []int{5, 6}, []int{6, 5}, []int{6}, []int{5})
	for v := 7; v < nodes; v++ { // and a chain besides, at whose end it stands
		b.set(t, v, v-1)
	}
	b.just(t, all[5:], slices.Concat(all[6:], []int{5}), singles(slices.Concat(all[6:], []int{5}))...)
	b.set(t, 6, 5)
	b.stuck(t, []int{5, 6}, []int{5, 6})
	b.round(t, []int{3, 5, 6, 7, 8})
	if c := Circle(b.g, all); len(c) < 2 || c[0] == c[1] || !b.g.Has(c[len(c)-1], c[0]) {
		t.Errorf("Circle: %v", short(c))
	}
	b.set(t, 5)
	for _, v := range others {
		b.set(t, v, 5)
	}
	b.just(t, all, slices.Concat([]int{5}, others), []int{5}, others)
	b.just(t, others, others, others)
	b.set(t, 5, 19000)
	b.stuck(t, all, []int{5, 19000})
	without := slices.Delete(others, 18999, 19000) // 19000 stands there, as 5 is not among them
	b.just(t, slices.Concat(without, []int{5}), slices.Concat([]int{5}, without), []int{5}, without)
}

// unchanged looks at whether a graph tells what it told.
func (b *both) unchanged(t *testing.T) {
	t.Helper()
	edges := 0
	for v := range b.m {
		var readers []int
		for w := range b.m {
			if slices.Contains(b.m[w], v) {
				readers = append(readers, w)
			}
		}
		if r := b.g.Reads(v); !slices.Equal(r, b.m[v]) {
			t.Fatalf("%d reads %v, not %v", v, r, b.m[v])
		}
		if r := b.g.Readers(v); !slices.Equal(r, readers) {
			t.Fatalf("%d is read by %v, not %v", v, r, readers)
		}
		edges += len(b.m[v])
	}
	if b.g.Edges() != edges || b.g.Nodes() != len(b.m) {
		t.Fatalf("Edges %d, Nodes %d", b.g.Edges(), b.g.Nodes())
	}
}

// calls are all three, for what holds of each; each tells its answer as rows.
func calls() []func(g *graph.Graph, some []int) [][]int {
	return []func(g *graph.Graph, some []int) [][]int{
		func(g *graph.Graph, some []int) [][]int {
			l, _ := Order(g, some)
			return [][]int{l}
		},
		func(g *graph.Graph, some []int) [][]int {
			rows, _ := Waves(g, some)
			return rows
		},
		func(g *graph.Graph, some []int) [][]int { return [][]int{Circle(g, some)} },
	}
}

func clone(rows [][]int) [][]int {
	var l [][]int
	for _, row := range rows {
		l = append(l, slices.Clone(row))
	}
	return l
}

// Rule 4: the list some, its spare room too, and the graph stay as they were, whether there is a circle or none.
func TestLeft(t *testing.T) {
	for _, b := range []*both{
		made(t, []int{3, 2}, []int{0}, nil, []int{2}, []int{1}, []int{4, 0}),
		made(t, []int{3, 2}, []int{0}, nil, []int{2, 4}, []int{1}, []int{4, 0}),
	} {
		roomy := []int{4, 9, 1, 4, -1, 2, 0, 5, 3, -7, -7, -7, -7, -7, -7, -7, -7}
		for n := range 10 {
			for _, call := range calls() {
				was := slices.Clone(roomy)
				call(b.g, roomy[:n])
				call(b.g, roomy[:n:n])
				if !slices.Equal(roomy, was) {
					t.Fatalf("some %v: %v", was[:n], roomy)
				}
				b.unchanged(t)
			}
		}
	}
}

// Rule 4: what was told is new memory, each row of it too: it stays as it was when the graph is changed, or the list some, and others stay when it is changed itself.
func TestToldStays(t *testing.T) {
	b := made(t, []int{3, 2}, []int{0}, nil, []int{2}, []int{1, 7}, []int{4, 0}, nil, []int{4})
	for _, given := range [][]int{{2}, {6, 1, 0}, {0, 1, 2, 3}, {0, 1, 2, 3, 4, 5, 6}, {0, 1, 2, 3, 4, 5, 6, 7}, {4, 7}} {
		for i, call := range calls() {
			some := slices.Clone(given)
			l, other := call(b.g, some), call(b.g, some)
			was := clone(l)
			clear(some)
			old := b.m[4]
			b.set(t, 4)
			b.set(t, 6, 3, 5)
			b.set(t, 4, old...)
			if !sameRows(l, was) || !sameRows(other, was) {
				t.Fatalf("%d, of %v: %v and %v were %v", i, given, l, other, was)
			}
			b.set(t, 6)
			for _, row := range l {
				_ = append(row, 97, 96, 95, 94, 93, 92, 91, 90)
				if !sameRows(l, was) {
					t.Fatalf("%d, of %v: %v, not %v, behind what was put behind %v", i, given, l, was, row)
				}
			}
			for _, row := range l {
				for at := range row {
					row[at] = 99
				}
			}
			_ = append(l, []int{98})
			if !sameRows(other, was) {
				t.Fatalf("%d, of %v, told twice: %v, not %v", i, given, other, was)
			}
			b.unchanged(t)
			b.ask(t, given...)
		}
	}
}

// P14.1, P14.2, P14.3: what is told hangs on what the graph's nodes read now, and on nothing that was asked ahead of it.
func TestChanges(t *testing.T) {
	b := made(t, nil, []int{0}, []int{1}, []int{2})
	all := upTo(0, 3)
	b.told(t, all, all, singles(all)...)
	b.set(t, 1)
	b.told(t, all, all, []int{0, 1}, []int{2}, []int{3})
	b.set(t, 1, 3)
	b.stuck(t, all, []int{1, 3, 2})
	b.set(t, 2)
	b.told(t, all, []int{0, 2, 3, 1}, []int{0, 2}, []int{3}, []int{1})
	b.set(t, 0, 1, 2)
	b.told(t, all, []int{2, 3, 1, 0}, singles([]int{2, 3, 1, 0})...)
	c := made(t, []int{1}, nil) // and not on another graph
	c.told(t, []int{0, 1}, []int{1, 0}, []int{1}, []int{0})
	b.told(t, all, []int{2, 3, 1, 0}, singles([]int{2, 3, 1, 0})...)
	b.set(t, 2, 0)
	b.stuck(t, all, []int{0, 2}, []int{0, 1, 3, 2})
	b.set(t, 2)
	b.told(t, []int{1, 0}, []int{1, 0}, []int{1}, []int{0})
}

// drawnGraph draws a graph, whose nodes read up to so many; if it has to be without circles, only some that stand ahead in an order that is drawn.
func drawnGraph(t *testing.T, draw *rand.Rand, nodes, reads int, circles bool) *both {
	t.Helper()
	b, perm := made(t, make([][]int, nodes)...), draw.Perm(nodes)
	for at, v := range perm {
		among := perm[:at]
		if circles {
			among = slices.Delete(slices.Clone(perm), at, at+1)
		}
		var l []int
		for _, k := range draw.Perm(len(among))[:draw.Intn(min(reads, len(among))+1)] {
			l = append(l, among[k])
		}
		b.set(t, v, l...)
	}
	return b
}

// drawnSome draws some nodes, now few, now most of them, with others among them, and some twice.
func drawnSome(draw *rand.Rand, nodes int) []int {
	some := draw.Perm(nodes)[:draw.Intn(nodes+1)]
	if draw.Intn(2) == 0 {
		some = draw.Perm(nodes)[:nodes-draw.Intn(2)]
	}
	for range draw.Intn(4) {
		some = append(some, strangers(nodes)[draw.Intn(len(strangers(nodes)))], draw.Intn(nodes))
	}
	draw.Shuffle(len(some), func(i, j int) { some[i], some[j] = some[j], some[i] })
	return some
}

// P14.1 to P14.5: drawn graphs, with and without circles, against the chapter's words. (The draw is the same each time.)
func TestDrawn(t *testing.T) {
	draw := rand.New(rand.NewSource(14))
	for _, nodes := range []int{2, 3, 5, 8, 20, 60} {
		for _, reads := range []int{1, 2, 3, 8} {
			for _, circles := range []bool{false, true} {
				for range 5 {
					b := drawnGraph(t, draw, nodes, reads, circles)
					for range 20 {
						some := drawnSome(draw, nodes)
						b.ask(t, some...)
						stand(t, b, some)
					}
					b.unchanged(t)
				}
			}
		}
	}
}

// P14.1, P14.2, P14.3: what is told hangs neither on the order of some nor on the order in which the graph's nodes were set, and is the same each time (rule 5). (The draw is the same each time.)
func TestSame(t *testing.T) {
	draw := rand.New(rand.NewSource(145))
	for range 100 {
		b := drawnGraph(t, draw, 12, 2, true)
		again := made(t, make([][]int, 12)...)
		for _, v := range draw.Perm(12) {
			again.set(t, v, b.m[v]...)
		}
		some := drawnSome(draw, 12)
		other := slices.Clone(some)
		draw.Shuffle(len(other), func(i, j int) { other[i], other[j] = other[j], other[i] })
		for i, call := range calls() {
			l := call(b.g, some)
			if x := call(again.g, some); !sameRows(l, x) {
				t.Fatalf("%v, %d, of %v: %v, then %v", b.m, i, some, l, x)
			}
			if x := call(b.g, other); i < 2 && !sameRows(l, x) {
				t.Fatalf("%v, %d, of %v and %v: %v and %v", b.m, i, some, other, l, x)
			}
		}
	}
}

// P14.1, P14.2, P14.5: of a graph that has no circle no nodes have one, and with fewer of them none stands further behind in Waves. (The draw is the same each time.)
func TestFewer(t *testing.T) {
	draw := rand.New(rand.NewSource(144))
	for range 200 {
		b := drawnGraph(t, draw, 15, 3, false)
		all, e := Waves(b.g, upTo(0, 14))
		if e != api.OK {
			t.Fatalf("%v: %v", b.m, e)
		}
		some := drawnSome(draw, 15)
		fewer, e := Waves(b.g, some)
		if e != api.OK || len(Circle(b.g, some)) != 0 {
			t.Fatalf("%v, Waves of %v: %v", b.m, some, e)
		}
		for at, row := range fewer {
			for _, v := range row {
				if !slices.ContainsFunc(all[at:], func(l []int) bool { return slices.Contains(l, v) }) {
					t.Fatalf("%v: %d stands in row %d of %v, and further ahead in %v", b.m, v, at, fewer, all)
				}
			}
		}
	}
}

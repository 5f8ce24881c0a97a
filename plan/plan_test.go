package plan

import (
	"math"
	"math/rand"
	"slices"
	"testing"

	"gavelkind/api"
	"gavelkind/graph"
	"gavelkind/order"
	"gavelkind/reach"
)

const most, least = math.MaxInt, math.MinInt

// strangers are no nodes of a graph of so many, though some are as far from one that is as the graph or a number of 32 bits is great.
func strangers(nodes int) []int {
	return []int{-1, nodes, -2, nodes + 1, -nodes, -nodes - 1, 2 * nodes, 20000, 20001, 1 << 31, -1 << 31, 1<<32 - 1, 1 << 32, 1<<32 + nodes - 1, -1 << 32, most, most - 1, least, least + 1, least + nodes - 1}
}

// model is what each node reads: all that is told is worked out of that, by the chapters' words.
type model [][]int

// reached goes over all nodes again and again, till none comes any more that reads one that is reached.
func (m model) reached(dirty []int) []int {
	is := make([]bool, len(m))
	for v := range m {
		is[v] = slices.Contains(dirty, v)
	}
	for more := true; more; {
		more = false
		for v := range m {
			if !is[v] && slices.ContainsFunc(m[v], func(w int) bool { return is[w] }) {
				is[v], more = true, true
			}
		}
	}
	var l []int
	for v := range m {
		if is[v] {
			l = append(l, v)
		}
	}
	return l
}

// plan tells, at each place, the least one of those that are left all of whose reads, among those that are reached, stand ahead.
func (m model) plan(dirty []int) ([]int, api.Errno) {
	left := m.reached(dirty)
	var l []int
	for len(left) > 0 {
		at := slices.IndexFunc(left, func(v int) bool {
			return !slices.ContainsFunc(m[v], func(w int) bool { return slices.Contains(left, w) })
		})
		if at < 0 {
			return nil, api.ErrCircle
		}
		l, left = append(l, left[at]), slices.Delete(left, at, at+1)
	}
	return l, api.OK
}

// run tells, of a do that tells true of all but some, what is done.
func (m model) run(dirty, still []int) ([]int, api.Errno) {
	planned, e := m.plan(dirty)
	var done []int
	for _, v := range planned {
		changed := func(w int) bool { return slices.Contains(done, w) && !slices.Contains(still, w) }
		if slices.Contains(dirty, v) || slices.ContainsFunc(m[v], changed) {
			done = append(done, v)
		}
	}
	return done, e
}

// both is a graph and what each of its nodes reads.
type both struct {
	g *graph.Graph
	m model
}

// made makes a graph whose nodes read what stands at their places.
func made(t *testing.T, reads ...[]int) *both {
	t.Helper()
	b := &both{m: slices.Clone(reads)}
	var e api.Errno
	if b.g, e = graph.New(len(reads)); e != api.OK {
		t.Fatalf("New(%d): %v", len(reads), e)
	}
	for v := range reads {
		b.set(t, v, reads[v]...)
	}
	return b
}

func (b *both) set(t *testing.T, v int, reads ...int) {
	t.Helper()
	if _, _, e := b.g.Set(v, reads); e != api.OK {
		t.Fatalf("Set(%d, %v): %v", v, reads, e)
	}
	b.m[v] = slices.Clone(reads)
}

// ran is a Run, and the nodes for which it called do, in turn.
func (b *both) ran(dirty []int, does func(v int) bool) (done, called []int, e api.Errno) {
	done, e = Run(b.g, dirty, func(v int) bool {
		called = append(called, v)
		return does(v)
	})
	return done, called, e
}

// but makes a do that tells true of all but some.
func but(still []int) func(v int) bool {
	return func(v int) bool { return !slices.Contains(still, v) }
}

func always(int) bool { return true }

func never(int) bool { return false }

// ask makes both calls, and holds what they tell against the chapter's words.
func (b *both) ask(t *testing.T, dirty, still []int) {
	t.Helper()
	b.askPlan(t, dirty)
	b.askRun(t, dirty, still)
}

func (b *both) askPlan(t *testing.T, dirty []int) {
	t.Helper()
	l, e := Plan(b.g, dirty)
	if want, f := b.m.plan(dirty); !slices.Equal(l, want) || e != f {
		t.Fatalf("%v, Plan of %v: %v, %v; not %v, %v", b.m, dirty, l, e, want, f)
	}
	if want, f := order.Order(b.g, reach.Reach(b.g, dirty)); !slices.Equal(l, want) || e != f {
		t.Fatalf("%v, Plan of %v: %v, %v; order and reach tell %v, %v", b.m, dirty, l, e, want, f)
	}
}

func (b *both) askRun(t *testing.T, dirty, still []int) {
	t.Helper()
	done, called, e := b.ran(dirty, but(still))
	if want, f := b.m.run(dirty, still); !slices.Equal(done, want) || !slices.Equal(called, want) || e != f {
		t.Fatalf("%v, Run of %v, where %v do not change: %v, called %v, %v; not %v, %v", b.m, dirty, still, done, called, e, want, f)
	}
}

// askAll asks with each node alone, with all of them, with all but one, and with none, where all change, none, and all but each one.
func (b *both) askAll(t *testing.T) {
	t.Helper()
	all := upTo(0, len(b.m)-1)
	dirties, stills := [][]int{nil, all}, [][]int{nil, all}
	for v := range b.m {
		without := slices.Delete(slices.Clone(all), v, v+1)
		dirties, stills = append(dirties, []int{v}, without), append(stills, []int{v}, without)
	}
	for _, dirty := range dirties {
		b.askPlan(t, dirty)
		for _, still := range stills {
			b.askRun(t, dirty, still)
		}
	}
}

// planned asks for the Plan, and holds it against what is written out, and so all that is done where all change.
func (b *both) planned(t *testing.T, dirty []int, want ...int) {
	t.Helper()
	b.justPlanned(t, dirty, want...)
	b.ask(t, dirty, nil)
}

// justPlanned is planned without the look at the words, for graphs and lists that are too great for it.
func (b *both) justPlanned(t *testing.T, dirty []int, want ...int) {
	t.Helper()
	if l, e := Plan(b.g, dirty); !slices.Equal(l, want) || e != api.OK {
		t.Errorf("Plan of %v: %v, %v; not %v", short(dirty), short(l), e, short(want))
	}
	if done, e := Run(b.g, dirty, nil); !slices.Equal(done, want) || e != api.OK {
		t.Errorf("Run of %v without a do: %v, %v; not %v", short(dirty), short(done), e, short(want))
	}
	b.justDone(t, dirty, nil, want...)
}

// done asks for a Run, and holds it against what is written out.
func (b *both) done(t *testing.T, dirty, still []int, want ...int) {
	t.Helper()
	b.justDone(t, dirty, still, want...)
	b.ask(t, dirty, still)
}

func (b *both) justDone(t *testing.T, dirty, still []int, want ...int) {
	t.Helper()
	if done, called, e := b.ran(dirty, but(still)); !slices.Equal(done, want) || !slices.Equal(called, want) || e != api.OK {
		t.Errorf("Run of %v, where %v do not change: %v, called %v, %v; not %v", short(dirty), short(still), short(done), short(called), e, short(want))
	}
}

// stuck asks both calls for a circle: nothing is told beside it, and do is not called at all.
func (b *both) stuck(t *testing.T, dirty ...int) {
	t.Helper()
	if l, e := Plan(b.g, dirty); l != nil || e != api.ErrCircle {
		t.Errorf("Plan of %v: %v, %v", short(dirty), short(l), e)
	}
	for _, does := range []func(v int) bool{always, never, func(v int) bool { return v%2 == 0 }} {
		if done, called, e := b.ran(dirty, does); done != nil || called != nil || e != api.ErrCircle {
			t.Errorf("Run of %v: %v, called %v, %v", short(dirty), short(done), short(called), e)
		}
	}
	if done, e := Run(b.g, dirty, nil); done != nil || e != api.ErrCircle {
		t.Errorf("Run of %v without a do: %v, %v", short(dirty), short(done), e)
	}
}

// short is a list that may be long, for a message.
func short(l []int) []int { return l[:min(len(l), 12)] }

// upTo tells the numbers from lo to hi.
func upTo(lo, hi int) []int {
	var l []int
	for n := lo; n <= hi; n++ {
		l = append(l, n)
	}
	return l
}

// falling tells the numbers from hi down to lo.
func falling(hi, lo int) []int {
	l := upTo(lo, hi)
	slices.Reverse(l)
	return l
}

// P15.1, P15.2: of a nil graph, and of a plain one, there is nothing to plan and nothing to do, whatever stands in dirty, and no fault, as order's Order of them tells.
func TestNoGraph(t *testing.T) {
	for i, g := range []*graph.Graph{nil, {}, new(graph.Graph)} {
		for _, dirty := range [][]int{nil, {}, {0}, {1}, {0, 0}, {0, 1, 2}, {-1}, {most}, {least}, strangers(0), strangers(1), make([]int, 1000)} {
			if l, e := Plan(g, dirty); len(l) != 0 || e != api.OK {
				t.Errorf("%d: Plan of %v: %v, %v", i, dirty, l, e)
			}
			b := &both{g: g}
			if done, called, e := b.ran(dirty, always); len(done) != 0 || len(called) != 0 || e != api.OK {
				t.Errorf("%d: Run of %v: %v, called %v, %v", i, dirty, done, called, e)
			}
			if done, e := Run(g, dirty, nil); len(done) != 0 || e != api.OK {
				t.Errorf("%d: Run of %v without a do: %v, %v", i, dirty, done, e)
			}
		}
	}
}

// P15.1, P15.2: the chapter's example, and parts of it.
func TestExample(t *testing.T) {
	b := made(t, nil, []int{0}, []int{1})
	b.planned(t, []int{0}, 0, 1, 2)
	b.done(t, []int{0}, []int{1}, 0, 1)
	b.done(t, []int{0}, []int{0}, 0)
	b.done(t, []int{0}, []int{2}, 0, 1, 2)
	b.done(t, []int{0}, []int{0, 1, 2}, 0)
	b.done(t, []int{1}, []int{0}, 1, 2)
	b.done(t, []int{0, 2}, []int{0}, 0, 2)
}

// P15.1, P15.2: which nodes are in dirty, how often, and in which order.
func TestDirty(t *testing.T) {
	b := made(t, []int{2}, []int{0, 3}, nil, []int{4}, nil, []int{1, 0}, nil) // 2, 0, and 4, 3, then 1, then 5; 6 is alone
	b.planned(t, nil)
	b.planned(t, []int{})
	for v, want := range [][]int{{0, 1, 5}, {1, 5}, {2, 0, 1, 5}, {3, 1, 5}, {4, 3, 1, 5}, {5}, {6}} {
		b.planned(t, []int{v}, want...)
		b.planned(t, []int{v, v}, want...)
		b.planned(t, slices.Repeat([]int{v}, 9), want...)
		for _, dirty := range [][]int{{v}, {v, v}, slices.Repeat([]int{v}, 9)} {
			b.done(t, dirty, upTo(0, 6), v)
		}
	}
	b.planned(t, []int{0, 2}, 2, 0, 1, 5)
	b.planned(t, []int{2, 0}, 2, 0, 1, 5)
	b.planned(t, []int{5, 4, 5, 6, 4}, 4, 3, 1, 5, 6)
	b.done(t, []int{5, 4, 5, 6, 4}, upTo(0, 6), 4, 5, 6)
	b.done(t, []int{1, 0, 1, 2}, upTo(0, 6), 2, 0, 1)
	for _, all := range [][]int{{0, 1, 2, 3, 4, 5, 6}, {6, 5, 4, 3, 2, 1, 0}, {5, 0, 6, 2, 4, 1, 3}, {3, 0, 6, 0, 1, 3, 5, 2, 4, 3, 6}} {
		b.planned(t, all, 2, 0, 4, 3, 1, 5, 6)
		for _, still := range [][]int{nil, {2}, {4, 0}, {0, 1, 2, 3, 4, 5, 6}} {
			b.done(t, all, still, 2, 0, 4, 3, 1, 5, 6)
		}
	}
	long := append(slices.Repeat([]int{0, -1, 4, 7}, 100000), 6)
	b.justPlanned(t, long, 0, 4, 3, 1, 5, 6)
	b.justDone(t, long, []int{0, 4}, 0, 4, 6)
	b.justDone(t, long, []int{0, 3}, 0, 4, 3, 6)
}

// P15.1, P15.2: numbers that are no nodes play no part, alone and beside nodes, at each place.
func TestStrangers(t *testing.T) {
	for _, nodes := range []int{1, 2, 3, 5, 64} {
		b := made(t, make([][]int, nodes)...)
		for v := range nodes - 1 {
			b.set(t, v, v+1)
		}
		strange := slices.DeleteFunc(strangers(nodes), func(n int) bool { return n >= 0 && n < nodes })
		b.planned(t, strange)
		for _, n := range strange {
			b.planned(t, []int{n})
			b.planned(t, []int{n, n})
			for _, dirty := range [][]int{{0}, {nodes - 1}, {nodes / 2}, {nodes - 1, 0}} {
				rest := falling(slices.Max(dirty), 0)
				only := slices.Compact(slices.Sorted(slices.Values(dirty)))
				slices.Reverse(only)
				for at := range len(dirty) + 1 {
					for _, with := range [][]int{slices.Insert(slices.Clone(dirty), at, n), slices.Insert(slices.Clone(dirty), at, strange...)} {
						b.justPlanned(t, with, rest...)
						b.justDone(t, with, rest, only...)
					}
				}
			}
		}
	}
	b := made(t, []int{1}, []int{0}, []int{0}, nil)
	for _, n := range []int{-1, 4, most, least} {
		b.stuck(t, n, 0)
		b.stuck(t, 1, n)
		b.planned(t, []int{n})
		b.planned(t, []int{n, 2, 3}, 2, 3)
		b.planned(t, []int{3, n}, 3)
	}
}

// P15.1, P15.2: a graph of one node, and some in which none reads any.
func TestNoReads(t *testing.T) {
	one := made(t, nil)
	one.planned(t, nil)
	one.planned(t, []int{0}, 0)
	one.planned(t, []int{0, 0, 1, 0, -1}, 0)
	one.planned(t, []int{1})
	one.planned(t, []int{-1})
	one.done(t, []int{0}, []int{0}, 0)
	for _, nodes := range []int{2, 3, 10, 30} {
		b := made(t, make([][]int, nodes)...)
		b.askAll(t)
		all := upTo(0, nodes-1)
		b.planned(t, falling(nodes-1, 0), all...)
		b.done(t, falling(nodes-1, 0), all, all...)
		even := slices.DeleteFunc(upTo(0, nodes-1), func(v int) bool { return v%2 == 1 })
		b.planned(t, slices.Concat(even, even, []int{nodes}), even...)
	}
}

// P15.1, P15.2: chains in the order of the numbers, against it, and in none, which end to be done behind a node that does not change.
func TestChains(t *testing.T) {
	for _, l := range [][]int{{0, 1, 2, 3, 4, 5, 6}, {6, 5, 4, 3, 2, 1, 0}, {2, 4, 1, 6, 3, 0, 5}} { // each reads the one ahead
		b := made(t, make([][]int, 7)...)
		for at := 1; at < 7; at++ {
			b.set(t, l[at], l[at-1])
		}
		for from := range 7 {
			b.planned(t, l[from:from+1], l[from:]...)
			b.planned(t, l[from:], l[from:]...)
			b.done(t, l[from:], l, l[from:]...)
			for end := from; end < 7; end++ {
				b.done(t, []int{l[from]}, []int{l[end]}, l[from:end+1]...)
				b.done(t, []int{l[from]}, l[end:], l[from:end+1]...)
			}
		}
		b.done(t, []int{l[5], l[1]}, []int{l[2]}, l[1], l[2], l[5], l[6])
		b.done(t, []int{l[5], l[1]}, []int{l[2], l[5]}, l[1], l[2], l[5])
		b.done(t, []int{l[3], l[2], l[0]}, []int{l[0], l[3]}, l[0], l[2], l[3])
		b.askAll(t)
	}
}

// P15.2, P15.4: a node that reads several is done if one of them was done and changed, whichever it is and wherever it stands among its reads.
func TestOneChanged(t *testing.T) {
	for _, reads := range [][]int{{0, 1, 2}, {0, 2, 1}, {1, 0, 2}, {1, 2, 0}, {2, 0, 1}, {2, 1, 0}} {
		b := made(t, nil, nil, nil, reads)
		all := []int{0, 1, 2}
		b.done(t, all, nil, 0, 1, 2, 3)
		b.done(t, all, all, 0, 1, 2) // all were done, and none changed
		for v := range 3 {
			others := slices.Delete(slices.Clone(all), v, v+1)
			b.done(t, all, []int{v}, 0, 1, 2, 3)
			b.done(t, all, others, 0, 1, 2, 3)
			b.done(t, []int{v}, others, v, 3)
			b.done(t, []int{v}, []int{v}, v)
			b.done(t, others, others, others...)
			b.done(t, others, []int{v}, append(others, 3)...)
			b.done(t, append(others, 3), others, append(others, 3)...)
		}
		b.askAll(t)
	}
}

// P15.2, P15.4: what was planned and not done did not change, so that what reads that, and no other one that changed, is not done.
func TestNotDone(t *testing.T) {
	b := made(t, nil, []int{0}, []int{1}, []int{2, 4}, nil, []int{3, 1})
	b.planned(t, []int{0}, 0, 1, 2, 3, 5)
	b.done(t, []int{0}, []int{0}, 0)
	b.done(t, []int{0}, []int{1}, 0, 1)
	b.done(t, []int{0}, []int{2}, 0, 1, 2, 5)
	b.done(t, []int{0, 4}, []int{0}, 0, 4, 3, 5)
	b.done(t, []int{0, 4}, []int{0, 4}, 0, 4)
	b.done(t, []int{0, 4}, []int{1, 4}, 0, 1, 4)
	b.done(t, []int{0, 4}, []int{1, 3}, 0, 1, 4, 3)
	b.done(t, []int{0, 4}, []int{2, 4}, 0, 1, 2, 4, 5)
	b.done(t, []int{3, 0}, []int{0}, 0, 3, 5)
	b.done(t, []int{3, 0}, []int{0, 3}, 0, 3)
	b.done(t, []int{5, 0}, []int{0}, 0, 5)
	b.askAll(t)
}

// P15.2: a node in dirty is done though nothing that it reads was done, or changed.
func TestDirtyIsDone(t *testing.T) {
	b := made(t, []int{3}, []int{0}, []int{1, 5}, nil, []int{2}, nil)
	b.done(t, []int{1}, []int{1}, 1)
	b.done(t, []int{3, 1}, []int{3}, 3, 1, 2, 4)
	b.done(t, []int{3, 1}, []int{3, 1}, 3, 1)
	b.done(t, []int{4, 3}, []int{0}, 3, 0, 4)
	b.done(t, []int{4, 3}, []int{3}, 3, 4)
	b.done(t, []int{2, 5, 3}, upTo(0, 5), 3, 5, 2)
	b.done(t, upTo(0, 5), upTo(0, 5), 3, 0, 1, 5, 2, 4)
	b.askAll(t)
}

// P15.1, P15.2: chains that meet, and nodes that are reached in ways of different lengths, stand behind all that they read.
func TestMeet(t *testing.T) {
	two := made(t, []int{1}, []int{2}, nil, []int{4}, []int{5}, []int{6}, nil, []int{0, 3}, []int{7, 2}) // 2, 1, 0, and 6, 5, 4, 3, then 7, then 8
	two.planned(t, []int{2, 6}, 2, 1, 0, 6, 5, 4, 3, 7, 8)
	two.planned(t, []int{6}, 6, 5, 4, 3, 7, 8)
	two.done(t, []int{2, 6}, []int{1, 4}, 2, 1, 6, 5, 4, 8)
	two.done(t, []int{2, 6}, []int{2, 4}, 2, 6, 5, 4)
	two.done(t, []int{2, 6}, []int{0}, 2, 1, 0, 6, 5, 4, 3, 7, 8)
	two.done(t, []int{2, 6}, []int{2, 7}, 2, 6, 5, 4, 3, 7)
	two.done(t, []int{2, 6}, []int{7, 6}, 2, 1, 0, 6, 7, 8)
	ways := made(t, nil, []int{0, 4}, []int{0}, []int{2}, []int{3}, []int{1, 0}) // 0 to 1 in one step, and in four
	ways.planned(t, []int{0}, 0, 2, 3, 4, 1, 5)
	ways.done(t, []int{0}, []int{2}, 0, 2, 1, 5)
	ways.done(t, []int{0}, []int{2, 1}, 0, 2, 1, 5)
	ways.done(t, []int{0}, []int{4, 1}, 0, 2, 3, 4, 1, 5)
	ways.done(t, []int{2}, []int{1}, 2, 3, 4, 1)
	ways.done(t, []int{2}, []int{3}, 2, 3)
	square := made(t, []int{1, 2}, []int{3}, []int{3}, nil, []int{1, 2}, []int{0, 4})
	square.planned(t, []int{3}, 3, 1, 2, 0, 4, 5)
	square.done(t, []int{3}, []int{1}, 3, 1, 2, 0, 4, 5)
	square.done(t, []int{3}, []int{1, 2}, 3, 1, 2)
	square.done(t, []int{3}, []int{0, 4}, 3, 1, 2, 0, 4)
	square.done(t, []int{1}, []int{0}, 1, 0, 4, 5)
	for _, b := range []*both{two, ways, square} {
		b.askAll(t)
	}
}

// P15.1, P15.2: circles of which some nodes are reached, which stand in dirty or behind it: the error, and nothing is done; circles that are not reached, ahead of dirty or apart, play no part.
func TestCircles(t *testing.T) {
	two := made(t, []int{1}, []int{0})
	two.stuck(t, 0)
	two.stuck(t, 1)
	two.stuck(t, 1, 0, 1)
	two.planned(t, nil)
	two.planned(t, []int{2, -1})
	b := made(t, nil, []int{2, 0}, []int{3}, []int{1}, []int{3}, []int{4}, nil, []int{6}) // 1, 2, 3 go round; 0 ahead of them, 4 and 5 behind, 6 and 7 apart
	for _, dirty := range [][]int{{0}, {1}, {2}, {3}, {0, 5}, {5, 0}, {3, 2, 1}, {6, 0}, {7, 4, 2}, {0, 1, 2, 3, 4, 5, 6, 7}, {8, 3, -1}} {
		b.stuck(t, dirty...)
	}
	b.planned(t, []int{4}, 4, 5) // what it reads goes round, and is not reached
	b.planned(t, []int{5}, 5)
	b.planned(t, []int{6}, 6, 7)
	b.planned(t, []int{7, 4, 6}, 4, 5, 6, 7)
	b.done(t, []int{7, 4, 6}, []int{4, 6}, 4, 6, 7)
	b.planned(t, nil)
	far := made(t, nil, []int{0}, []int{1}, []int{2, 5}, []int{3}, []int{4}, []int{5}) // the circle stands behind a chain
	for v := range 6 {
		far.stuck(t, v)
	}
	far.planned(t, []int{6}, 6)
	for _, x := range []*both{two, b, far} {
		x.askAll(t)
	}
	far.set(t, 3, 2)
	far.planned(t, []int{0}, 0, 1, 2, 3, 4, 5, 6)
}

// P15.1, P15.2: circles of so many nodes, in either direction, and with one edge less.
func TestRings(t *testing.T) {
	for _, nodes := range []int{2, 3, 4, 5, 10, 31} {
		up, down := made(t, make([][]int, nodes)...), made(t, make([][]int, nodes)...)
		for v := range nodes {
			up.set(t, (v+1)%nodes, v)
			down.set(t, v, (v+1)%nodes)
		}
		for v := range nodes {
			up.stuck(t, v)
			down.stuck(t, v)
		}
		all := upTo(0, nodes-1)
		up.stuck(t, all...)
		down.stuck(t, all...)
		up.set(t, 0)
		down.set(t, nodes-1)
		up.planned(t, []int{0}, all...)
		down.planned(t, []int{nodes - 1}, falling(nodes-1, 0)...)
	}
}

// P15.2: do: none, one that tells true always, never, now and then, and one that goes by what it did.
func TestDo(t *testing.T) {
	b := made(t, nil, []int{0}, []int{1}, []int{0}, []int{3, 2}, nil, []int{5})
	if done, e := Run(b.g, []int{0, 5}, nil); !slices.Equal(done, []int{0, 1, 2, 3, 4, 5, 6}) || e != api.OK {
		t.Errorf("without a do: %v, %v", done, e)
	}
	inTurn := func(is func(turn int) bool) func(v int) bool {
		turn := 0
		return func(int) bool {
			turn++
			return is(turn)
		}
	}
	for i, x := range []struct {
		do   func(v int) bool
		want []int
	}{
		{always, []int{0, 1, 2, 3, 4, 5, 6}},
		{never, []int{0, 5}},
		{func(v int) bool { return v%2 == 0 }, []int{0, 1, 3, 5}},
		{func(v int) bool { return v == 5 }, []int{0, 5, 6}},
		{func(v int) bool { return v == 0 || v == 3 }, []int{0, 1, 3, 4, 5}},
		{inTurn(func(turn int) bool { return turn < 3 }), []int{0, 1, 2, 3, 5}},
		{inTurn(func(turn int) bool { return turn%2 == 0 }), []int{0, 5, 6}},
		{inTurn(func(turn int) bool { return turn%2 == 1 }), []int{0, 1, 3, 4, 5, 6}},
	} {
		done, called, e := b.ran([]int{5, 0}, x.do)
		if !slices.Equal(done, x.want) || !slices.Equal(called, x.want) || e != api.OK {
			t.Errorf("%d: %v, called %v, %v; not %v", i, done, called, e, x.want)
		}
	}
}

// P15.2: do is called at a node's place: when all that stands ahead of it was done, and nothing else.
func TestPlace(t *testing.T) {
	b := made(t, []int{3, 2}, []int{0}, nil, []int{2}, []int{1, 7}, []int{4, 0}, nil, []int{2})
	values := []int{0, 0, 1, 0, 0, 0, 0, 0} // each is to have 1 more than all that it reads have
	done, e := Run(b.g, []int{2}, func(v int) bool {
		was := values[v]
		values[v] = 1
		for _, w := range b.m[v] {
			values[v] += values[w]
		}
		return v == 2 || values[v] != was
	})
	if want := []int{2, 3, 0, 1, 7, 4, 5}; !slices.Equal(done, want) || e != api.OK {
		t.Errorf("%v, %v; not %v", done, e, want)
	}
	if want := []int{4, 5, 1, 2, 8, 13, 0, 2}; !slices.Equal(values, want) {
		t.Errorf("%v, not %v", values, want)
	}
}

// P15.1: at each place the least one that may stand there, also where one that is less comes to be that later.
func TestLeast(t *testing.T) {
	b := made(t, []int{5}, nil, nil, []int{2}, nil, []int{3}, nil, []int{1}, []int{4})
	b.planned(t, []int{1, 2, 4}, 1, 2, 3, 4, 5, 0, 7, 8)
	b.planned(t, []int{8, 2, 6}, 2, 3, 5, 0, 6, 8)
	b.planned(t, []int{8, 1, 5}, 1, 5, 0, 7, 8)
	b.done(t, []int{2, 4, 8}, []int{3, 4}, 2, 3, 4, 8)
	back := made(t, []int{9}, []int{8}, []int{7}, []int{6}, []int{5}, nil, nil, nil, nil, nil)
	back.planned(t, upTo(5, 9), 5, 4, 6, 3, 7, 2, 8, 1, 9, 0)
	back.done(t, upTo(5, 9), []int{6, 9}, 5, 4, 6, 7, 2, 8, 1, 9)
	b.askAll(t)
	back.askAll(t)
}

// P15.1, P15.2: graphs in which each node reads all that are ahead of it in an order.
func TestFullGraphs(t *testing.T) {
	for _, nodes := range []int{2, 3, 4, 8, 15} {
		up, down := made(t, make([][]int, nodes)...), made(t, make([][]int, nodes)...)
		for v := range nodes {
			up.set(t, v, upTo(0, v-1)...)
			down.set(t, v, upTo(v+1, nodes-1)...)
		}
		up.planned(t, []int{0}, upTo(0, nodes-1)...)
		down.planned(t, []int{nodes - 1}, falling(nodes-1, 0)...)
		up.done(t, []int{0}, upTo(1, nodes-1), upTo(0, nodes-1)...)
		up.done(t, []int{0}, []int{0}, 0)
		up.askAll(t)
		down.askAll(t)
	}
}

// P15.3: what is done is planned, each once, behind all that it reads and that was done; if do never tells true, just the nodes of dirty are, and if it always does, all that was planned.
func (b *both) bounds(t *testing.T, dirty, still []int) {
	t.Helper()
	planned, e := Plan(b.g, dirty)
	done, f := Run(b.g, dirty, but(still))
	if e != f {
		t.Fatalf("%v, dirty %v: Plan %v, Run %v", b.m, dirty, e, f)
	}
	at := 0
	for i, v := range done {
		for at < len(planned) && planned[at] != v {
			at++
		}
		if at == len(planned) || slices.Contains(done[:i], v) {
			t.Fatalf("%v, dirty %v, still %v: planned %v, done %v", b.m, dirty, still, planned, done)
		}
		for _, w := range b.g.Reads(v) {
			if slices.Contains(done[i:], w) {
				t.Fatalf("%v, dirty %v, still %v: done %v, where %d reads %d", b.m, dirty, still, done, v, w)
			}
		}
	}
	none, _ := Run(b.g, dirty, never)
	isDirty := func(v int) bool { return slices.Contains(dirty, v) }
	if want := slices.DeleteFunc(slices.Clone(planned), func(v int) bool { return !isDirty(v) }); !slices.Equal(none, want) {
		t.Fatalf("%v, dirty %v, where none changes: %v, not %v", b.m, dirty, none, want)
	}
	if all, _ := Run(b.g, dirty, always); !slices.Equal(all, planned) {
		t.Fatalf("%v, dirty %v, where all change: %v, not %v", b.m, dirty, all, planned)
	}
	if all, _ := Run(b.g, dirty, nil); !slices.Equal(all, planned) {
		t.Fatalf("%v, dirty %v, without a do: %v, not %v", b.m, dirty, all, planned)
	}
}

// P15.4: a node that is not in dirty is done just if one that it reads was done and changed; and one that is in it is, unless there is a circle.
func (b *both) stops(t *testing.T, dirty, still []int) {
	t.Helper()
	var changed []int
	done, e := Run(b.g, dirty, func(v int) bool {
		if slices.Contains(still, v) {
			return false
		}
		changed = append(changed, v)
		return true
	})
	if e != api.OK {
		return
	}
	for v := range b.m {
		has := slices.ContainsFunc(changed, func(w int) bool { return b.g.Has(v, w) })
		if is := slices.Contains(done, v); is != (has || slices.Contains(dirty, v)) {
			t.Fatalf("%v, dirty %v, still %v: done %v, changed %v, %d is %v", b.m, dirty, still, done, changed, v, is)
		}
	}
}

// rows tells all lists of numbers from lo to hi that have so many.
func rows(many, lo, hi int) [][]int {
	l := [][]int{nil}
	for range many {
		var longer [][]int
		for _, row := range l {
			for n := lo; n <= hi; n++ {
				longer = append(longer, append(slices.Clone(row), n))
			}
		}
		l = longer
	}
	return l
}

// lists tells all lists of nodes that a node may read, in any order.
func lists(nodes, v int) [][]int {
	var l [][]int
	for many := range nodes {
		for _, row := range rows(many, 0, nodes-1) {
			sorted := slices.Sorted(slices.Values(row))
			if !slices.Contains(row, v) && len(slices.Compact(sorted)) == many {
				l = append(l, row)
			}
		}
	}
	return l
}

// bitsOf tells the numbers of the bits that are 1.
func bitsOf(x, many int) []int {
	var l []int
	for n := range many {
		if x>>n&1 == 1 {
			l = append(l, n)
		}
	}
	return l
}

// P15.1, P15.2: all graphs of up to 3 nodes, whatever the order of their reads, all lists of up to 3 numbers, of all these nodes and of what is none, and all that do may tell.
func TestAllSmall(t *testing.T) {
	for nodes := 1; nodes <= 3; nodes++ {
		var dirties [][]int
		for many := range 4 {
			dirties = append(dirties, rows(many, -1, nodes)...)
		}
		several := [][][]int{nil}
		for v := range nodes {
			var longer [][][]int
			for _, reads := range several {
				for _, l := range lists(nodes, v) {
					longer = append(longer, append(slices.Clone(reads), l))
				}
			}
			several = longer
		}
		for _, reads := range several {
			b := made(t, reads...)
			for _, dirty := range dirties {
				b.askPlan(t, dirty)
				for x := range 1 << nodes {
					b.askRun(t, dirty, bitsOf(x, nodes))
				}
			}
		}
	}
}

// P15.1 to P15.4: all graphs of 4 nodes, all sets of them, and all that do may tell.
func TestAllOfFour(t *testing.T) {
	for x := range 1 << 12 {
		b := made(t, make([][]int, 4)...)
		for v := range 4 {
			var reads []int
			for _, w := range bitsOf(x>>(3*v)&7, 3) {
				if w >= v {
					w++ // a node does not read itself
				}
				reads = append(reads, w)
			}
			b.set(t, v, reads...)
		}
		for y := range 1 << 4 {
			dirty := bitsOf(y, 4)
			b.askPlan(t, dirty)
			if _, e := Plan(b.g, dirty); e != api.OK {
				b.stuck(t, dirty...)
				continue
			}
			for z := range 1 << 4 {
				b.askRun(t, dirty, bitsOf(z, 4))
			}
			b.bounds(t, dirty, bitsOf(y*7%16, 4))
			b.stops(t, dirty, bitsOf(y*11%16, 4))
		}
	}
}

// P15.1, P15.2: the greatest graph, as one chain in the order of the numbers and against it, and as one circle.
func TestGreatest(t *testing.T) {
	const nodes = api.MaxCells
	b := made(t, make([][]int, nodes)...)
	all, back := upTo(0, nodes-1), falling(nodes-1, 0)
	b.justPlanned(t, back, all...)
	b.justDone(t, back, back[:1000], all...)
	for v := 1; v < nodes; v++ {
		b.set(t, v, v-1)
	}
	b.justPlanned(t, []int{0}, all...)
	b.justPlanned(t, back, all...)
	b.justPlanned(t, slices.Concat(all, []int{-1, nodes, most, least}, back), all...)
	b.justPlanned(t, []int{nodes - 1}, nodes-1)
	b.justPlanned(t, []int{nodes, -1, most, least})
	b.justDone(t, []int{0}, []int{12345}, all[:12346]...)
	b.justDone(t, []int{7, 13000}, []int{12345, 13001}, slices.Concat(all[7:12346], all[13000:13002])...)
	b.justDone(t, []int{0}, []int{0}, 0)
	if done, called, e := b.ran(back, never); !slices.Equal(done, all) || !slices.Equal(called, all) || e != api.OK {
		t.Errorf("where none changes: %d done, %d called, %v", len(done), len(called), e)
	}
	b.set(t, 0, nodes-1) // a circle
	for _, dirty := range [][]int{{0}, {nodes - 1}, {10000}, all, back} {
		b.stuck(t, dirty...)
	}
	b.set(t, 10000) // one chain, which begins in the middle
	b.justPlanned(t, []int{10000}, slices.Concat(all[10000:], all[:10000])...)
	b.justDone(t, []int{10000}, []int{20}, slices.Concat(all[10000:], all[:21])...)
	for v := range nodes { // and the other way round
		b.set(t, v, upTo(v+1, min(v+1, nodes-1))...)
	}
	b.justPlanned(t, []int{nodes - 1}, back...)
	b.justPlanned(t, all, back...)
	b.justPlanned(t, []int{3}, 3, 2, 1, 0)
	b.justDone(t, []int{nodes - 1}, []int{5}, falling(nodes-1, 5)...)
	b.set(t, nodes-1, 0)
	for _, dirty := range [][]int{{0}, {nodes - 1}, {10000}, all} {
		b.stuck(t, dirty...)
	}
	b.set(t, nodes-1)
	b.set(t, 12000, 12001, 11000) // a circle in the middle
	b.stuck(t, nodes-1)
	b.stuck(t, 11000)
	b.justPlanned(t, []int{10999}, back[nodes-11000:]...)
}

// P15.1, P15.2: the greatest graph, of which one node reads all others, and which all others read.
func TestGreatStars(t *testing.T) {
	const nodes = api.MaxCells
	all, others := upTo(0, nodes-1), slices.Delete(upTo(0, nodes-1), 5, 6)
	b := made(t, make([][]int, nodes)...)
	b.set(t, 5, others...)
	b.justPlanned(t, all, slices.Concat(others, []int{5})...)
	b.justPlanned(t, []int{nodes - 1, 0}, 0, nodes-1, 5)
	b.justDone(t, []int{nodes - 1, 0}, []int{0}, 0, nodes-1, 5)
	b.justDone(t, []int{nodes - 1, 0}, []int{0, nodes - 1}, 0, nodes-1)
	if done, called, e := b.ran(others, never); !slices.Equal(done, others) || !slices.Equal(called, others) || e != api.OK {
		t.Errorf("where none changes: %d done, %d called, %v", len(done), len(called), e)
	}
	if done, called, e := b.ran(others, func(v int) bool { return v == 777 }); !slices.Equal(done, slices.Concat(others, []int{5})) || !slices.Equal(called, done) || e != api.OK {
		t.Errorf("where one changes: %d done, %d called, %v", len(done), len(called), e)
	}
	b.set(t, 5)
	for _, v := range others {
		b.set(t, v, 5)
	}
	b.justPlanned(t, []int{5}, slices.Concat([]int{5}, others)...)
	b.justDone(t, []int{5}, []int{5}, 5)
	b.justDone(t, []int{19000, 5}, []int{5}, 5, 19000)
	b.set(t, 5, 19000)
	b.stuck(t, 5)
	b.stuck(t, 19000, 4)
	b.justPlanned(t, []int{4, 7}, 4, 7)
}

// unchanged looks at whether a graph tells what it told.
func (b *both) unchanged(t *testing.T) {
	t.Helper()
	edges := 0
	for v := range b.m {
		var readers []int
		for w := range b.m {
			if slices.Contains(b.m[w], v) {
				readers = append(readers, w)
			}
		}
		if r := b.g.Reads(v); !slices.Equal(r, b.m[v]) {
			t.Fatalf("%d reads %v, not %v", v, r, b.m[v])
		}
		if r := b.g.Readers(v); !slices.Equal(r, readers) {
			t.Fatalf("%d is read by %v, not %v", v, r, readers)
		}
		edges += len(b.m[v])
	}
	if b.g.Edges() != edges || b.g.Nodes() != len(b.m) {
		t.Fatalf("Edges %d, Nodes %d", b.g.Edges(), b.g.Nodes())
	}
}

// calls are both, Run with several do, for what holds of each.
func calls() []func(g *graph.Graph, dirty []int) []int {
	run := func(do func(v int) bool) func(g *graph.Graph, dirty []int) []int {
		return func(g *graph.Graph, dirty []int) []int {
			done, _ := Run(g, dirty, do)
			return done
		}
	}
	return []func(g *graph.Graph, dirty []int) []int{
		func(g *graph.Graph, dirty []int) []int {
			l, _ := Plan(g, dirty)
			return l
		},
		run(nil), run(always), run(never), run(func(v int) bool { return v%3 != 0 }),
	}
}

// Rule 4: the list dirty, its spare room too, and the graph stay as they were, whether there is a circle or none.
func TestLeft(t *testing.T) {
	for _, b := range []*both{
		made(t, []int{3, 2}, []int{0}, nil, []int{2}, []int{1}, []int{4, 0}),
		made(t, []int{3, 2}, []int{0}, nil, []int{2, 4}, []int{1}, []int{4, 0}),
	} {
		roomy := []int{4, 9, 1, 4, -1, 2, 0, 5, 3, -7, -7, -7, -7, -7, -7, -7, -7}
		for n := range 10 {
			for _, call := range calls() {
				was := slices.Clone(roomy)
				call(b.g, roomy[:n])
				call(b.g, roomy[:n:n])
				if !slices.Equal(roomy, was) {
					t.Fatalf("dirty %v: %v", was[:n], roomy)
				}
				b.unchanged(t)
			}
		}
	}
}

// Rule 4: what was told is new memory: it stays as it was when the graph is changed, or the list dirty, and others stay when it is changed itself.
func TestToldStays(t *testing.T) {
	b := made(t, []int{3, 2}, []int{0}, nil, []int{2}, []int{1, 7}, []int{4, 0}, nil, nil)
	for _, given := range [][]int{{2}, {5}, {6, 5}, {6, 1, 0}, {0, 1, 2, 3}, {0, 1, 2, 3, 4, 5, 6}, {7, 6, 5, 4, 3, 2, 1, 0}, {4, 7}} {
		for i, call := range calls() {
			dirty := slices.Clone(given)
			l, other := call(b.g, dirty), call(b.g, dirty)
			was := slices.Clone(l)
			if len(was) == 0 {
				t.Fatalf("%d, of %v: nothing", i, given)
			}
			clear(dirty)
			old := b.m[4]
			b.set(t, 4)
			b.set(t, 6, 3, 5)
			b.set(t, 4, old...)
			if !slices.Equal(l, was) || !slices.Equal(other, was) {
				t.Fatalf("%d, of %v: %v and %v were %v", i, given, l, other, was)
			}
			b.set(t, 6)
			_ = append(l, 97, 96, 95, 94, 93, 92, 91, 90)
			for at := range l {
				l[at] = 99
			}
			if again := call(b.g, given); !slices.Equal(other, was) || !slices.Equal(again, was) {
				t.Fatalf("%d, of %v, told again: %v and %v, not %v", i, given, other, again, was)
			}
			b.unchanged(t)
			b.ask(t, given, []int{0, 3})
		}
	}
}

// P15.1, P15.2: what is told hangs on what the graph's nodes read now, and on nothing that was asked or done ahead of it.
func TestChanges(t *testing.T) {
	b := made(t, nil, []int{0}, []int{1}, []int{2})
	b.planned(t, []int{0}, 0, 1, 2, 3)
	b.done(t, []int{0}, []int{1}, 0, 1)
	b.set(t, 1)
	b.planned(t, []int{0}, 0)
	b.planned(t, []int{1}, 1, 2, 3)
	b.set(t, 1, 3)
	b.planned(t, []int{0}, 0)
	b.stuck(t, 1)
	b.set(t, 2, 0)
	b.planned(t, []int{0}, 0, 2, 3, 1)
	b.done(t, []int{0}, []int{2}, 0, 2)
	b.done(t, []int{0}, []int{1}, 0, 2, 3, 1)
	c := made(t, []int{1}, nil) // and not on another graph
	c.planned(t, []int{1}, 1, 0)
	b.done(t, []int{3}, []int{1}, 3, 1)
	b.set(t, 0, 1, 2)
	b.stuck(t, 2)
	b.set(t, 2)
	b.planned(t, []int{2}, 2, 3, 1, 0)
}

// Rules 4 and 5: a Run goes by the graph and the list that were handed in: when do changes them, the next Run tells it.
func TestDoChanges(t *testing.T) {
	b := made(t, nil, []int{0}, []int{1}, []int{2}, nil, []int{4})
	dirty := []int{0, 3}
	done, called, e := b.ran(dirty, func(v int) bool {
		switch v {
		case 0: // what 0 leads to reads other ones from now on, and 4 comes to be dirty
			b.set(t, 1)
			b.set(t, 2, 5)
			b.set(t, 4, 0)
			dirty[1] = 4
		case 1:
			b.set(t, 0, 3) // a circle
			b.set(t, 3, 0)
		}
		return v != 2
	})
	if want := []int{0, 1, 2, 3}; !slices.Equal(done, want) || !slices.Equal(called, want) || e != api.OK {
		t.Errorf("%v, called %v, %v; not %v", done, called, e, want)
	}
	b.unchanged(t)
	b.stuck(t, dirty...)
	b.set(t, 0)
	b.done(t, dirty, []int{5}, 0, 3, 4, 5)
	other, _ := graph.New(1)
	done, called, e = b.ran([]int{0}, func(int) bool {
		*b.g = *other
		return true
	})
	if want := []int{0, 3, 4, 5, 2}; !slices.Equal(done, want) || !slices.Equal(called, want) || e != api.OK {
		t.Errorf("%v, called %v, %v; not %v", done, called, e, want)
	}
}

// Rule 1: a do that panics makes no call panic: it was called, and told no change.
func TestPanics(t *testing.T) {
	b := made(t, nil, []int{0}, []int{1}, []int{0}, []int{3, 2}, nil, []int{5})
	for _, fault := range []any{"no", api.ErrArg, 7, nil} {
		for _, bad := range [][]int{{0}, {1}, {2, 3}, {5}, {0, 5}, {0, 1, 2, 3, 4, 5, 6}} {
			done, called, e := b.ran([]int{5, 0}, func(v int) bool {
				if slices.Contains(bad, v) {
					panic(fault)
				}
				return true
			})
			if want, _ := b.m.run([]int{5, 0}, bad); !slices.Equal(done, want) || !slices.Equal(called, want) || e != api.OK {
				t.Errorf("of %v: %v, called %v, %v; not %v", bad, done, called, e, want)
			}
		}
	}
	var none map[int]int
	if done, e := Run(b.g, []int{0}, func(v int) bool { none[v]++; return true }); !slices.Equal(done, []int{0}) || e != api.OK {
		t.Errorf("%v, %v", done, e)
	}
	b.unchanged(t)
	b.askAll(t)
}

// Rule 5: a do may itself plan and run, of the same graph too: each Run has its own.
func TestWithin(t *testing.T) {
	b := made(t, nil, []int{0}, []int{1}, []int{0}, []int{3, 2})
	done, called, e := b.ran([]int{0}, func(v int) bool {
		b.done(t, []int{v}, []int{v}, v)
		b.done(t, []int{0}, []int{1, 3}, 0, 1, 3)
		b.planned(t, []int{3}, 3, 4)
		return v != 1
	})
	if want := []int{0, 1, 3, 4}; !slices.Equal(done, want) || !slices.Equal(called, want) || e != api.OK {
		t.Errorf("%v, called %v, %v; not %v", done, called, e, want)
	}
}

// drawnGraph draws a graph, whose nodes read up to so many; if it has to be without circles, only some that stand ahead in an order that is drawn.
func drawnGraph(t *testing.T, draw *rand.Rand, nodes, reads int, circles bool) *both {
	t.Helper()
	b, perm := made(t, make([][]int, nodes)...), draw.Perm(nodes)
	for at, v := range perm {
		among := perm[:at]
		if circles {
			among = slices.Delete(slices.Clone(perm), at, at+1)
		}
		var l []int
		for _, k := range draw.Perm(len(among))[:draw.Intn(min(reads, len(among))+1)] {
			l = append(l, among[k])
		}
		b.set(t, v, l...)
	}
	return b
}

// drawnDirty draws a list, mostly of few nodes, with others among them, and some twice.
func drawnDirty(draw *rand.Rand, nodes int) []int {
	dirty := draw.Perm(nodes)[:draw.Intn(min(nodes, 4)+1)]
	if draw.Intn(4) == 0 {
		dirty = draw.Perm(nodes)[:draw.Intn(nodes+1)]
	}
	for range draw.Intn(3) {
		dirty = append(dirty, strangers(nodes)[draw.Intn(len(strangers(nodes)))])
		if len(dirty) > 1 {
			dirty = append(dirty, dirty[draw.Intn(len(dirty))])
		}
	}
	draw.Shuffle(len(dirty), func(i, j int) { dirty[i], dirty[j] = dirty[j], dirty[i] })
	return dirty
}

// drawnStill draws the nodes that do not change: none, all, few or many.
func drawnStill(draw *rand.Rand, nodes int) []int {
	most := []int{0, nodes, min(nodes, 3), nodes / 2}[draw.Intn(4)]
	return draw.Perm(nodes)[:draw.Intn(most+1)]
}

// P15.1 to P15.4: drawn graphs, with and without circles, drawn lists and answers of do, against the chapter's words. (The draw is the same each time.)
func TestDrawn(t *testing.T) {
	draw := rand.New(rand.NewSource(15))
	for _, nodes := range []int{2, 3, 5, 8, 20, 60} {
		for _, reads := range []int{1, 2, 3, 8} {
			for _, circles := range []bool{false, false, true} {
				for range 5 {
					b := drawnGraph(t, draw, nodes, reads, circles)
					for range 20 {
						dirty, still := drawnDirty(draw, nodes), drawnStill(draw, nodes)
						b.ask(t, dirty, still)
						b.bounds(t, dirty, still)
						b.stops(t, dirty, still)
					}
					b.unchanged(t)
				}
			}
		}
	}
}

// P15.1, P15.2: what is told hangs neither on the order of dirty, nor on how often a node stands there, nor on the order in which the graph's nodes were set or in which they read, and is the same each time (rule 5). (The draw is the same each time.)
func TestSame(t *testing.T) {
	draw := rand.New(rand.NewSource(155))
	for range 200 {
		b := drawnGraph(t, draw, 12, 3, draw.Intn(4) == 0)
		again := made(t, make([][]int, 12)...)
		for _, v := range draw.Perm(12) {
			reads := slices.Clone(b.m[v])
			draw.Shuffle(len(reads), func(i, j int) { reads[i], reads[j] = reads[j], reads[i] })
			again.set(t, v, reads...)
		}
		dirty := drawnDirty(draw, 12)
		other := slices.Concat(dirty, dirty)
		draw.Shuffle(len(other), func(i, j int) { other[i], other[j] = other[j], other[i] })
		for i, call := range calls() {
			l := call(b.g, dirty)
			for _, x := range [][]int{call(b.g, dirty), call(again.g, dirty), call(b.g, other), call(again.g, other)} {
				if !slices.Equal(l, x) {
					t.Fatalf("%v, %d, of %v: %v, then %v", b.m, i, dirty, l, x)
				}
			}
		}
	}
}

// P15.3, P15.4: with more in dirty, or more that change, no less is done. (The draw is the same each time.)
func TestMore(t *testing.T) {
	draw := rand.New(rand.NewSource(154))
	for range 500 {
		b := drawnGraph(t, draw, 15, 3, false)
		dirty, still := drawnDirty(draw, 15), drawnStill(draw, 15)
		done, _ := Run(b.g, dirty, but(still))
		more, _ := Run(b.g, append(drawnDirty(draw, 15), dirty...), but(still[:draw.Intn(len(still)+1)]))
		for _, v := range done {
			if !slices.Contains(more, v) {
				t.Fatalf("%v, of %v, still %v: %v, and then %v", b.m, dirty, still, done, more)
			}
		}
	}
}

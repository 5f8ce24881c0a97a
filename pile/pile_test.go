package pile

import (
	"cmp"
	"math"
	"math/rand"
	"reflect"
	"slices"
	"strconv"
	"strings"
	"testing"

	"gavelkind/api"
)

const most, least = math.MaxInt, math.MinInt

// job is a thing of which only the size tells what is less: the name tells which of those that are alike it is.
type job struct {
	size int
	name string
}

func isLess(a, b int) bool        { return a < b }
func isMore(a, b int) bool        { return a > b }
func isShorter(a, b string) bool  { return len(a) < len(b) }
func isSmaller(a, b job) bool     { return a.size < b.size }
func isEarlier(a, b string) bool  { return a < b }
func isNever[T any](a, b T) bool  { return false }
func isBelow(a, b [2]int) bool    { return a[0] < b[0] || a[0] == b[0] && a[1] < b[1] }
func isByCell(a, b api.Cell) bool { return cmp.Or(cmp.Compare(a.Period, b.Period), b.Rule-a.Rule) < 0 }

// jobs are things of these sizes, each with a name of its own.
func jobs(sizes ...int) []job {
	var l []job
	for i, size := range sizes {
		l = append(l, job{size, strconv.Itoa(i)})
	}
	return l
}

// model tells by a list, in the order of pushing, and by the chapter's words what a pile has to answer.
type model[T any] struct {
	less   func(a, b T) bool
	things []T
}

// first tells the place of the thing of which no other one is less; of those that are so, the one that was pushed first.
func (m *model[T]) first() int {
	for i, x := range m.things {
		if !slices.ContainsFunc(m.things, func(other T) bool { return m.less(other, x) }) {
			return i
		}
	}
	return -1
}

func (m *model[T]) push(x T) { m.things = append(m.things, x) }

func (m *model[T]) peek() (T, bool) {
	if i := m.first(); i >= 0 {
		return m.things[i], true
	}
	var none T
	return none, false
}

func (m *model[T]) pop() (T, bool) {
	x, ok := m.peek()
	if ok {
		i := m.first()
		m.things = slices.Delete(m.things, i, i+1)
	}
	return x, ok
}

// sorted puts things in order by the chapter's words.
func sorted[T any](l []T, less func(a, b T) bool) []T {
	m := &model[T]{less, slices.Clone(l)}
	var s []T
	for range l {
		x, _ := m.pop()
		s = append(s, x)
	}
	return s
}

func same(a, b any) bool { return reflect.DeepEqual(a, b) }

// pushed makes a pile and pushes things.
func pushed[T any](t *testing.T, less func(a, b T) bool, things ...T) *Pile[T] {
	t.Helper()
	p := New(less)
	if p == nil || p.Len() != 0 {
		t.Fatalf("New: %v", p)
	}
	push(t, p, things...)
	return p
}

func push[T any](t *testing.T, p *Pile[T], things ...T) {
	t.Helper()
	for _, x := range things {
		had := p.Len()
		if e := p.Push(x); e != api.OK || p.Len() != had+1 {
			t.Fatalf("Push(%v) to %d things: %v, Len %d", x, had, e, p.Len())
		}
	}
}

// pops looks twice at each thing that comes, then takes it.
func pops[T any](t *testing.T, p *Pile[T], want ...T) {
	t.Helper()
	for i, w := range want {
		had := p.Len()
		for range 2 {
			if x, ok := p.Peek(); !same(x, w) || !ok || p.Len() != had {
				t.Fatalf("Peek, ahead of pop %d: %v, %v, not %v; Len %d of %d", i, x, ok, w, p.Len(), had)
			}
		}
		if x, ok := p.Pop(); !same(x, w) || !ok || p.Len() != had-1 {
			t.Fatalf("Pop %d: %v, %v, not %v; Len %d of %d", i, x, ok, w, p.Len(), had)
		}
	}
}

// isEmpty asks for what an empty pile tells, twice, as nothing is to be changed by that.
func isEmpty[T any](t *testing.T, p *Pile[T]) {
	t.Helper()
	var none T
	for range 2 {
		if p.Len() != 0 {
			t.Fatalf("Len of an empty pile: %d", p.Len())
		}
		if x, ok := p.Peek(); !same(x, none) || ok {
			t.Fatalf("Peek of an empty pile: %v, %v", x, ok)
		}
		if x, ok := p.Pop(); !same(x, none) || ok {
			t.Fatalf("Pop of an empty pile: %v, %v", x, ok)
		}
	}
}

// allPop takes all that there is.
func allPop[T any](t *testing.T, p *Pile[T], want ...T) {
	t.Helper()
	if p.Len() != len(want) {
		t.Fatalf("Len: %d, not %d", p.Len(), len(want))
	}
	pops(t, p, want...)
	isEmpty(t, p)
}

// P9.1: a pile without an order is none; any other one is empty at first.
func TestNew(t *testing.T) {
	if p := New[int](nil); p != nil {
		t.Errorf("New(nil): %v", p)
	}
	if p := New[string](nil); p != nil {
		t.Errorf("New(nil), of texts: %v", p)
	}
	if p := New[job](nil); p != nil {
		t.Errorf("New(nil), of jobs: %v", p)
	}
	isEmpty(t, pushed(t, isLess))
	isEmpty(t, pushed(t, isShorter))
	isEmpty(t, pushed(t, isSmaller))
	isEmpty(t, pushed(t, isNever[any]))
	isEmpty(t, pushed(t, isNever[[]int]))
}

// P9.1: one pile has nothing to do with another one, even of the same order.
func TestPilesApart(t *testing.T) {
	p, q := pushed(t, isLess, 2, 1), pushed(t, isLess)
	isEmpty(t, q)
	push(t, q, 3)
	allPop(t, p, 1, 2)
	allPop(t, q, 3)
	rising, falling := pushed(t, isLess, 1, 2, 3), pushed(t, isMore, 1, 2, 3)
	allPop(t, rising, 1, 2, 3)
	allPop(t, falling, 3, 2, 1)
}

// P9.1: Len counts what is there: not what was, nor what is told.
func TestLen(t *testing.T) {
	p := New(isLess)
	for n := range 40 {
		if p.Len() != n {
			t.Fatalf("Len: %d, not %d", p.Len(), n)
		}
		p.Push(0)
	}
	for n := 40; n > 0; n-- {
		p.Peek()
		if p.Len() != n {
			t.Fatalf("Len: %d, not %d", p.Len(), n)
		}
		p.Pop()
	}
	isEmpty(t, p)
}

// P9.2: ordinary calls, written out: numbers, texts and structs.
func TestPushAndPop(t *testing.T) {
	allPop(t, pushed(t, isLess, 5, 3, 4), 3, 4, 5) // the chapter's example
	allPop(t, pushed(t, isMore, 5, 3, 4), 5, 4, 3)
	allPop(t, pushed(t, isLess, 0, most, -1, least, 1, least+1, most-1), least, least+1, -1, 0, 1, most-1, most)
	allPop(t, pushed(t, isShorter, "ccc", "", "b", "dd", "a", "ee"), "", "b", "a", "dd", "ee", "ccc")
	allPop(t, pushed(t, isEarlier, "b", "", "a\x00", "a", "\xff", "ab", "A"), "", "A", "a", "a\x00", "ab", "b", "\xff")
	allPop(t, pushed(t, isSmaller, job{2, "a"}, job{1, "b"}, job{2, "c"}, job{0, "d"}, job{1, "e"}),
		job{0, "d"}, job{1, "b"}, job{1, "e"}, job{2, "a"}, job{2, "c"})
	allPop(t, pushed(t, isByCell, api.Cell{Period: 1, Rule: 2}, api.Cell{Rule: 1}, api.Cell{Rule: 3, Entity: 1}, api.Cell{Rule: 3}, api.Cell{Period: -1}),
		api.Cell{Period: -1}, api.Cell{Rule: 3, Entity: 1}, api.Cell{Rule: 3}, api.Cell{Rule: 1}, api.Cell{Period: 1, Rule: 2})
	allPop(t, pushed(t, isBelow, [2]int{1, 2}, [2]int{1, 1}, [2]int{0, 9}), [2]int{0, 9}, [2]int{1, 1}, [2]int{1, 2})
	allPop(t, pushed(t, func(a, b float64) bool { return a < b }, 1, math.Inf(-1), 0.5, math.Inf(1)), math.Inf(-1), 0.5, 1, math.Inf(1))
	allPop(t, pushed(t, func(a, b []int) bool { return len(a) < len(b) }, []int{1, 2}, nil, []int{3}), nil, []int{3}, []int{1, 2})
}

// P9.2: the empty thing is one as any other: an answer of it alone does not tell that there is none.
func TestEmptyThing(t *testing.T) {
	allPop(t, pushed(t, isLess, 0), 0)
	allPop(t, pushed(t, isLess, 0, 0, 0), 0, 0, 0)
	allPop(t, pushed(t, isShorter, ""), "")
	allPop(t, pushed(t, isSmaller, job{}, job{}), job{}, job{})
	allPop(t, pushed(t, isNever[any], nil, 1, nil), nil, 1, nil)
	allPop(t, pushed(t, isNever[*int], nil), nil)
}

// P9.2: a pile of none, of one and of two, and one that was emptied.
func TestFewThings(t *testing.T) {
	isEmpty(t, New(isSmaller))
	for _, c := range [][]job{jobs(1), jobs(0), jobs(1, 2), jobs(2, 1), jobs(1, 1), jobs(-1, 0), jobs(0, -1)} {
		want := slices.Clone(c)
		if len(c) == 2 && c[1].size < c[0].size {
			slices.Reverse(want)
		}
		p := pushed(t, isSmaller, c...)
		for range 3 { // what was emptied is as a new one
			allPop(t, p, want...)
			push(t, p, c...)
		}
		allPop(t, p, want...)
		push(t, p, job{9, "a"})
		push(t, p, job{9, "b"}, job{8, "c"})
		allPop(t, p, job{8, "c"}, job{9, "a"}, job{9, "b"})
	}
}

// P9.2: to look changes nothing, and Pop takes what Peek told.
func TestPeek(t *testing.T) {
	p := pushed(t, isSmaller, jobs(3, 1, 2, 1)...)
	for range 5 {
		if x, ok := p.Peek(); x != (job{1, "1"}) || !ok || p.Len() != 4 {
			t.Fatal(x, ok, p.Len())
		}
	}
	push(t, p, job{1, "late"}) // no less: it does not come ahead
	pops(t, p, job{1, "1"})
	push(t, p, job{0, "less"})
	allPop(t, p, job{0, "less"}, job{1, "3"}, job{1, "late"}, job{2, "2"}, job{3, "0"})
}

// P9.2: things pushed rising, falling and all alike, as many as to fill every depth of a pile, and some more.
func TestRuns(t *testing.T) {
	for n := range 70 {
		var rising, falling, level []job
		for i := range n {
			name := strconv.Itoa(i)
			rising, falling, level = append(rising, job{i, name}), append(falling, job{-i, name}), append(level, job{7, name})
		}
		backward := slices.Clone(falling)
		slices.Reverse(backward)
		allPop(t, pushed(t, isSmaller, rising...), rising...)
		allPop(t, pushed(t, isSmaller, falling...), backward...)
		allPop(t, pushed(t, isSmaller, level...), level...)
		allPop(t, pushed(t, isNever[job], falling...), falling...)
	}
}

// P9.2, P9.4: of things that are alike the one that was pushed first comes first, whatever is pushed and popped between.
func TestAlike(t *testing.T) {
	p := pushed(t, isShorter, "a", "b", "c")
	pops(t, p, "a")
	push(t, p, "d", "e")
	pops(t, p, "b", "c")
	push(t, p, "", "f")
	pops(t, p, "", "d")
	push(t, p, "gg", "h", "a")
	pops(t, p, "e", "f", "h")
	push(t, p, "ii", "b")
	allPop(t, p, "a", "b", "gg", "ii")
	push(t, p, "z", "y")
	allPop(t, p, "z", "y")
	queue := New(isNever[int])
	next := 0
	for round := range 300 { // never empty, so that what came late is held against what came early
		push(t, queue, 2*round, 2*round+1)
		pops(t, queue, next)
		next++
	}
	for ; queue.Len() > 0; next++ {
		pops(t, queue, next)
	}
	isEmpty(t, queue)
}

// P9.2: the last place, one more, and the place behind a pop of a full pile.
func TestFull(t *testing.T) {
	p := New(isSmaller)
	for i := range 20000 {
		if e := p.Push(job{i % 7, strconv.Itoa(i)}); e != api.OK || p.Len() != i+1 {
			t.Fatalf("Push %d: %v, Len %d", i, e, p.Len())
		}
	}
	isFull := func() {
		t.Helper()
		first, _ := p.Peek()
		for range 2 {
			for _, x := range []job{{-1, "none"}, {0, "none"}, {9, "none"}} {
				if e := p.Push(x); e != api.ErrFull || p.Len() != 20000 {
					t.Fatalf("Push(%v) of a full pile: %v, Len %d", x, e, p.Len())
				}
			}
			if x, ok := p.Peek(); x != first || !ok {
				t.Fatalf("Peek of a full pile: %v, %v, not %v", x, ok, first)
			}
		}
	}
	isFull()
	pops(t, p, job{0, "0"})
	push(t, p, job{-5, "again"})
	isFull()
	pops(t, p, job{-5, "again"}, job{0, "7"})
	push(t, p, job{3, "x"}, job{0, "y"})
	isFull()
	var want []job
	for size := range 7 {
		for i := size; i < 20000; i += 7 {
			if size > 0 || i > 7 {
				want = append(want, job{size, strconv.Itoa(i)})
			}
		}
		if size == 0 {
			want = append(want, job{0, "y"})
		}
		if size == 3 {
			want = append(want, job{3, "x"})
		}
	}
	allPop(t, p, want...)
	push(t, p, jobs(2, 1)...)
	allPop(t, p, job{1, "1"}, job{2, "0"})
}

// P9.2: what was refused counts for nothing in the order of those that come later.
func TestRefusedLeavesNothing(t *testing.T) {
	p := New(isNever[int])
	for i := range api.MaxCells {
		p.Push(i)
	}
	for i := range 10 {
		p.Push(-i)
	}
	for i := range api.MaxCells {
		if x, ok := p.Pop(); x != i || !ok {
			t.Fatalf("Pop: %d, %v, not %d", x, ok, i)
		}
	}
	isEmpty(t, p)
}

// noPile asks a pile that New did not make for all, twice, as nothing is to be kept in it.
func noPile[T any](t *testing.T, name string, p *Pile[T], things ...T) {
	t.Helper()
	var none T
	for range 2 {
		for _, x := range append(things, none) {
			if e := p.Push(x); e != api.ErrNil {
				t.Errorf("%s: Push(%v): %v", name, x, e)
			}
			if x, ok := p.Peek(); !same(x, none) || ok {
				t.Errorf("%s: Peek: %v, %v", name, x, ok)
			}
			if x, ok := p.Pop(); !same(x, none) || ok {
				t.Errorf("%s: Pop: %v, %v", name, x, ok)
			}
			if p.Len() != 0 {
				t.Errorf("%s: Len: %d", name, p.Len())
			}
		}
	}
}

// P9.1, P9.2: a nil pile, and a plain one.
func TestNoPile(t *testing.T) {
	noPile(t, "nil", nil, 1, -1, most)
	noPile(t, "plain", &Pile[int]{}, 1, -1, most)
	noPile(t, "nil", nil, "", "a")
	noPile(t, "plain", &Pile[string]{}, "", "a")
	noPile(t, "nil", nil, job{1, "a"})
	noPile(t, "plain", &Pile[job]{}, job{1, "a"})
	noPile(t, "plain", new(Pile[[]int]), []int{1})
	noPile(t, "without an order", New[int](nil), 1)
	var plain Pile[any]
	noPile(t, "plain, not of new", &plain, 1, "a")
}

// P9.3: ordinary lists, written out, and the edges: none, one, alike, no order.
func TestSorted(t *testing.T) {
	for i, c := range []struct{ l, want []int }{
		{nil, nil}, {[]int{}, nil}, {[]int{7}, []int{7}}, {[]int{0}, []int{0}}, {[]int{5, 3, 4}, []int{3, 4, 5}},
		{[]int{1, 2}, []int{1, 2}}, {[]int{2, 1}, []int{1, 2}}, {[]int{1, 1}, []int{1, 1}},
		{[]int{most, 0, least, -1, least, 0}, []int{least, least, -1, 0, 0, most}},
	} {
		if s := Sorted(c.l, isLess); !slices.Equal(s, c.want) {
			t.Errorf("%d: Sorted(%v): %v", i, c.l, s)
		}
		slices.Reverse(c.want)
		if s := Sorted(c.l, isMore); !slices.Equal(s, c.want) {
			t.Errorf("%d: Sorted(%v), downward: %v", i, c.l, s)
		}
		if s := Sorted(c.l, nil); len(s) != 0 {
			t.Errorf("%d: Sorted(%v, nil): %v", i, c.l, s)
		}
		if s := Sorted(c.l, isNever); !slices.Equal(s, c.l) {
			t.Errorf("%d: Sorted(%v), all alike: %v", i, c.l, s)
		}
	}
	if s := Sorted([]string{"bb", "a", "", "cc", "b"}, isShorter); !slices.Equal(s, []string{"", "a", "b", "bb", "cc"}) {
		t.Error(s)
	}
	if s := Sorted([]string{"x"}, nil); len(s) != 0 {
		t.Error(s)
	}
	if s := Sorted(jobs(1, 0, 1, 0), isSmaller); !slices.Equal(s, []job{{0, "1"}, {0, "3"}, {1, "0"}, {1, "2"}}) {
		t.Error(s)
	}
	if s := Sorted[job](nil, nil); len(s) != 0 {
		t.Error(s)
	}
	if s := Sorted[any]([]any{"b", 1, nil}, isNever); !slices.Equal(s, []any{"b", 1, nil}) {
		t.Error(s)
	}
}

// P9.3: as many things as a pile has room for, and more: all of them come.
func TestSortedOfMany(t *testing.T) {
	for _, n := range []int{19999, 20000, 20001, 50000} {
		var l []job
		for i := range n {
			l = append(l, job{i * 7919 % 101, strconv.Itoa(i)})
		}
		want := slices.Clone(l)
		slices.SortStableFunc(want, func(a, b job) int { return a.size - b.size })
		kept := slices.Clone(l)
		if s := Sorted(l, isSmaller); !slices.Equal(s, want) {
			t.Errorf("Sorted of %d things is not in order", n)
		}
		if !slices.Equal(l, kept) {
			t.Errorf("Sorted of %d things changed its list", n)
		}
		if s := Sorted(l, isNever); !slices.Equal(s, l) {
			t.Errorf("Sorted of %d things that are alike changes their order", n)
		}
	}
}

// P9.3: the list that was passed in is as it was, with its spare room, and what is answered is other memory.
func TestSortedLeavesItsList(t *testing.T) {
	for _, n := range []int{0, 1, 2, 3, 8, 30} {
		all := make([]int, n+5)
		for i := range all {
			all[i] = (i + 1) * 17 % 31 % 9
		}
		kept := slices.Clone(all)
		for _, less := range []func(a, b int) bool{isLess, isMore, isNever[int]} {
			s := Sorted(all[:n], less)
			want := slices.Clone(s)
			for i := range s[:cap(s)] {
				s[:cap(s)][i] = -99
			}
			if !slices.Equal(all, kept) {
				t.Fatalf("Sorted of %d things: the list is now %v, was %v", n, all, kept)
			}
			if again := Sorted(all[:n], less); !slices.Equal(again, want) {
				t.Fatalf("Sorted of %d things: %v, and then %v", n, want, again)
			}
		}
	}
	p := New(isLess)
	l := []int{3, 1, 2}
	for _, x := range Sorted(l, isLess) { // nothing of the sorting stays
		push(t, p, -x)
	}
	allPop(t, p, -3, -2, -1)
}

// P9.2, P9.4: every row of pushes (of three sizes) and pops, up to a length, is told as the chapter's words tell it.
func TestAllRows(t *testing.T) {
	const longest = 9
	for code := range 1 << (2 * longest) { // two bits a step
		p, m := New(isSmaller), &model[job]{less: isSmaller}
		for step := range longest {
			what := code >> (2 * step) & 3
			if what == 3 {
				x, ok := p.Pop()
				if w, there := m.pop(); x != w || ok != there {
					t.Fatalf("row %x, step %d: Pop: %v, %v, not %v, %v", code, step, x, ok, w, there)
				}
			} else {
				x := job{what, string(rune('a' + step))}
				if e := p.Push(x); e != api.OK {
					t.Fatalf("row %x, step %d: Push: %v", code, step, e)
				}
				m.push(x)
			}
			if p.Len() != len(m.things) {
				t.Fatalf("row %x, step %d: Len: %d, not %d", code, step, p.Len(), len(m.things))
			}
		}
		for _, w := range sorted(m.things, isSmaller) {
			if x, ok := p.Pop(); x != w || !ok {
				t.Fatalf("row %x, at its end: Pop: %v, %v, not %v", code, x, ok, w)
			}
		}
		if p.Len() != 0 {
			t.Fatalf("row %x: %d left", code, p.Len())
		}
	}
}

// againstModel does the same to a pile and to a list, as it is drawn.
func againstModel[T any](t *testing.T, r *rand.Rand, less func(a, b T) bool, thing func(*rand.Rand) T) {
	t.Helper()
	p, m := New(less), &model[T]{less: less}
	pushes := 1 + r.Intn(9) // of 10 calls
	for range 1 + r.Intn(120) {
		if r.Intn(10) < pushes {
			x := thing(r)
			push(t, p, x)
			m.push(x)
		} else {
			x, ok := p.Pop()
			if w, there := m.pop(); !same(x, w) || ok != there {
				t.Fatalf("Pop: %v, %v, not %v, %v", x, ok, w, there)
			}
		}
		x, ok := p.Peek()
		if w, there := m.peek(); !same(x, w) || ok != there || p.Len() != len(m.things) {
			t.Fatalf("Peek: %v, %v, not %v, %v; Len: %d, not %d", x, ok, w, there, p.Len(), len(m.things))
		}
	}
	want := sorted(m.things, less)
	kept := slices.Clone(m.things)
	if s := Sorted(m.things, less); !slices.EqualFunc(s, want, func(a, b T) bool { return same(a, b) }) || !same(m.things, kept) {
		t.Fatalf("Sorted(%v): %v, not %v; %v", kept, s, want, m.things)
	}
	allPop(t, p, want...)
}

// P9.2 to P9.4: things of several kinds. (The draw is the same each time.)
func TestAgainstModel(t *testing.T) {
	r := rand.New(rand.NewSource(9))
	name := func(r *rand.Rand) string { return strconv.Itoa(r.Intn(1 << 30)) }
	for range 150 {
		againstModel(t, r, isLess, func(r *rand.Rand) int { return int(r.Uint64()) >> r.Intn(64) })
		againstModel(t, r, isMore, func(r *rand.Rand) int { return r.Intn(5) })
		againstModel(t, r, isSmaller, func(r *rand.Rand) job { return job{r.Intn(4), name(r)} })
		againstModel(t, r, isSmaller, func(r *rand.Rand) job { return job{r.Intn(40) - 20, name(r)} })
		againstModel(t, r, isShorter, func(r *rand.Rand) string { return strings.Repeat("x", r.Intn(3)) + "-" + strconv.Itoa(r.Intn(10)) })
		againstModel(t, r, isNever[job], func(r *rand.Rand) job { return job{r.Intn(4), name(r)} })
		againstModel(t, r, isByCell, func(r *rand.Rand) api.Cell {
			return api.Cell{Rule: r.Intn(4), Period: r.Intn(3), Entity: r.Intn(1 << 30)}
		})
		againstModel(t, r, func(a, b []int) bool { return len(a) < len(b) }, func(r *rand.Rand) []int { return []int{r.Int(), r.Int(), r.Int()}[:r.Intn(4)] })
	}
}

// P9.4: of a great pile what is popped is never less than the one ahead, and what is alike comes as it was pushed. (The draw is the same each time.)
func TestTops(t *testing.T) {
	r := rand.New(rand.NewSource(94))
	for _, sizes := range []int{1, 2, 10, 1000, 1 << 40} {
		p := New(func(a, b [2]int) bool { return a[0] < b[0] })
		for i := range api.MaxCells {
			push(t, p, [2]int{r.Intn(sizes), i})
		}
		ahead := [2]int{-1, 0}
		for range api.MaxCells {
			x, ok := p.Pop()
			if !ok || !isBelow(ahead, x) {
				t.Fatalf("of %d sizes: Pop: %v, %v, behind %v", sizes, x, ok, ahead)
			}
			ahead = x
		}
		isEmpty(t, p)
	}
}

// Rule 1: a less that panics makes no call panic: it tells no, so that its things are alike.
func TestLessThatPanics(t *testing.T) {
	odd := func(a, b *job) bool { return a.size < b.size } // of a nil one it panics
	nameless := func(a, b job) bool { panic(a.name) }
	allPop(t, pushed(t, nameless, jobs(3, 1, 2, 0)...), jobs(3, 1, 2, 0)...)
	if s := Sorted(jobs(2, 1, 0), nameless); !slices.Equal(s, jobs(2, 1, 0)) {
		t.Error(s)
	}
	one := &job{1, "a"}
	allPop(t, pushed(t, odd, nil, nil, nil), nil, nil, nil)
	allPop(t, pushed(t, odd, one, nil), one, nil)
	allPop(t, pushed(t, odd, nil, one), nil, one)
	if s := Sorted([]*job{nil, one, nil}, odd); len(s) != 3 {
		t.Error(s)
	}
	bad := true
	p := New(func(a, b int) bool {
		if bad {
			panic("not yet")
		}
		return a < b
	})
	push(t, p, 1, 2)
	bad = false // what was pushed as it panicked is there
	push(t, p, 0)
	allPop(t, p, 0, 1, 2)
}

// Rule 1: a less that is no order: nothing is told of what comes first, but each call ends, and what was pushed comes, each thing once. (The draw is the same each time.)
func TestLessThatIsNoOrder(t *testing.T) {
	r := rand.New(rand.NewSource(91))
	for i, less := range []func(a, b int) bool{
		func(a, b int) bool { return true },
		func(a, b int) bool { return a <= b },
		func(a, b int) bool { return a != b },
		func(a, b int) bool { return r.Intn(2) == 0 },
		func(a, b int) bool { return (a-b+30)%3 == 1 }, // round and round
	} {
		for n := range 40 {
			p, l := New(less), []int{}
			for x := range n {
				push(t, p, x)
				l = append(l, x)
			}
			var got []int
			for p.Len() > 0 {
				x, _ := p.Pop()
				got = append(got, x)
			}
			isEmpty(t, p)
			slices.Sort(got)
			if s := Sorted(l, less); !slices.Equal(got, l) || !slices.Equal(slices.Sorted(slices.Values(s)), l) {
				t.Fatalf("order %d: %v, %v, not %v", i, got, s, l)
			}
		}
	}
}

// Rule 1: a less that pushes to its own pile, or pops from it, is none that anything is told of: but each call ends, and none panics.
func TestLessThatCallsBack(t *testing.T) {
	calls := []func(p *Pile[int]){
		func(p *Pile[int]) { p.Pop() },
		func(p *Pile[int]) { p.Push(p.Len()) },
		func(p *Pile[int]) { p.Peek(); p.Len() },
		func(p *Pile[int]) {
			for p.Len() > 0 {
				p.Pop()
			}
		},
	}
	for i, call := range calls {
		for _, from := range []int{0, 1, 2, 59, 60} { // how many are pushed before less calls back
			var p *Pile[int]
			deep := 2
			p = New(func(a, b int) bool {
				if deep < 2 {
					deep++
					call(p)
					deep--
				}
				return a < b
			})
			for x := range 60 {
				if x == from {
					deep = 0
				}
				if e := p.Push(x * 7 % 60); e != api.OK && e != api.ErrFull {
					t.Fatalf("%d: Push: %v", i, e)
				}
			}
			deep = 0
			for range 60 {
				p.Pop()
			}
		}
	}
}

// No more is kept than what is there: a thing that was popped does not stay in the heap's spare room.
func TestNothingKept(t *testing.T) {
	p := New(func(a, b *job) bool { return a.size < b.size })
	for i := range 40 {
		push(t, p, &job{i * 17 % 40, "a"})
	}
	for left := 39; left >= 0; left-- {
		p.Pop()
		for i, x := range p.heap[:cap(p.heap)] {
			if i >= left && x.thing != nil {
				t.Fatalf("%d left: place %d keeps a thing", left, i)
			}
		}
	}
	isEmpty(t, p)
}

package bits

import (
	"iter"
	"maps"
	"math"
	"math/rand"
	"slices"
	"testing"

	"gavelkind/api"
)

const most, least = math.MaxInt, math.MinInt

// edges are the numbers at the ends, and at those of the words.
var edges = []int{0, 1, 62, 63, 64, 65, 126, 127, 128, 129, 191, 192, 4095, 4096, 32767, 32768, 65471, 65472, 65534, 65535}

// strangers are no numbers of a set, though some are as far from one that is as a word, a set or a number of 32 bits is great.
var strangers = []int{-1, 65536, -2, 65537, -63, -64, -65, 65599, 65600, -65535, -65536, -65537, 131071, 131072, 1 << 31, -1 << 31, 1 << 32, 1<<32 + 5, 1<<32 - 1, -1 << 32, 1<<48 + 5, most, most - 1, most - 65535, least, least + 1, least + 5, least + 65535}

// set makes a set, and puts numbers in.
func set(t *testing.T, numbers ...int) *Set {
	t.Helper()
	s := New()
	if s == nil {
		t.Fatal("New: nil")
	}
	has(t, s)
	for _, n := range numbers {
		put(t, s, n)
	}
	return s
}

func put(t *testing.T, s *Set, n int) {
	t.Helper()
	if e := s.Put(n); e != api.OK || !s.Has(n) {
		t.Fatalf("Put(%d): %v, then Has: %v", n, e, s.Has(n))
	}
}

func drop(t *testing.T, s *Set, n int) {
	t.Helper()
	if e := s.Drop(n); e != api.OK || s.Has(n) {
		t.Fatalf("Drop(%d): %v, then Has: %v", n, e, s.Has(n))
	}
}

func told(each iter.Seq[int]) []int {
	var l []int
	for n := range each {
		l = append(l, n)
	}
	return l
}

// firsts are the numbers that are told till there are so many.
func firsts(each iter.Seq[int], many int) []int {
	var l []int
	for n := range each {
		l = append(l, n)
		if len(l) == many {
			break
		}
	}
	return l
}

// has asks a set for all that it tells: want is rising.
func has(t *testing.T, s *Set, want ...int) {
	t.Helper()
	if all := s.All(); !slices.Equal(all, want) {
		t.Fatalf("All: %v, not %v", all, want)
	}
	if each := told(s.Each()); !slices.Equal(each, want) {
		t.Fatalf("Each: %v, not %v", each, want)
	}
	if s.Len() != len(want) {
		t.Fatalf("Len: %d, not %d", s.Len(), len(want))
	}
	for _, n := range want {
		if !s.Has(n) {
			t.Fatalf("Has(%d): false", n)
		}
	}
	for _, n := range edges {
		if _, is := slices.BinarySearch(want, n); s.Has(n) != is {
			t.Fatalf("Has(%d): %v", n, !is)
		}
	}
}

func row(from, to, step int) []int {
	var l []int
	for n := from; n < to; n += step {
		l = append(l, n)
	}
	return l
}

// full makes a set of all numbers there may be.
func full(t *testing.T) *Set {
	t.Helper()
	return set(t, row(0, 65536, 1)...)
}

// P11.1: how many numbers there may be.
func TestMost(t *testing.T) {
	if Most != 65536 {
		t.Error(Most)
	}
}

// P11.1: a set is empty when it is made, and has nothing to do with another one.
func TestNew(t *testing.T) {
	a, b := set(t), set(t)
	put(t, a, 5)
	has(t, b)
	put(t, b, 6)
	put(t, b, 5)
	drop(t, b, 5)
	has(t, a, 5)
	b.Clear()
	has(t, a, 5)
	has(t, set(t))
}

// P11.1, P11.2: ordinary calls, written out.
func TestPutAndDrop(t *testing.T) {
	s := set(t, 70, 3, 64) // the chapter's example
	has(t, s, 3, 64, 70)
	drop(t, s, 64)
	has(t, s, 3, 70)
	put(t, s, 64)
	put(t, s, 2)
	has(t, s, 2, 3, 64, 70)
	drop(t, s, 2)
	drop(t, s, 70)
	drop(t, s, 3)
	has(t, s, 64)
	drop(t, s, 64)
	has(t, s)
	put(t, s, 70)
	has(t, s, 70)
}

// P11.1: each of the edges by itself, put in and dropped, and each with all others.
func TestEdges(t *testing.T) {
	all := set(t)
	for i, n := range edges {
		s := set(t, n)
		has(t, s, n)
		drop(t, s, n)
		has(t, s)
		put(t, all, n)
		has(t, all, edges[:i+1]...)
	}
	back := set(t)
	for i := len(edges) - 1; i >= 0; i-- {
		put(t, back, edges[i])
		has(t, back, edges[i:]...)
	}
	for i, n := range edges {
		drop(t, all, n)
		has(t, all, edges[i+1:]...)
	}
}

// P11.1: what may not be is refused, and leaves no trace, in an empty set, in a full one and in others.
func TestStrangers(t *testing.T) {
	for _, s := range []*Set{set(t), set(t, 5), set(t, edges...), full(t)} {
		had := s.All()
		for _, n := range strangers {
			if e := s.Put(n); e != api.ErrArg {
				t.Errorf("Put(%d): %v", n, e)
			}
			if e := s.Drop(n); e != api.ErrArg {
				t.Errorf("Drop(%d): %v", n, e)
			}
			if s.Has(n) {
				t.Errorf("Has(%d)", n)
			}
		}
		has(t, s, had...)
	}
}

// P11.1: a Put of what is there, and a Drop of what is not, are refused, twice, and leave no trace.
func TestTwice(t *testing.T) {
	for i, n := range edges {
		others := slices.Delete(slices.Clone(edges), i, i+1)
		for _, there := range [][]int{nil, others} {
			s := set(t, there...)
			for range 2 {
				if e := s.Drop(n); e != api.ErrTwice {
					t.Errorf("Drop(%d) of what is not there: %v", n, e)
				}
				has(t, s, there...)
			}
			put(t, s, n)
			with := s.All()
			for range 2 {
				if e := s.Put(n); e != api.ErrTwice {
					t.Errorf("Put(%d) of what is there: %v", n, e)
				}
				has(t, s, with...)
			}
			drop(t, s, n)
			has(t, s, there...)
		}
	}
}

// P11.1, P11.2: all numbers there may be, put in, refused a second time, and dropped, rising, falling and by steps.
func TestAllNumbers(t *testing.T) {
	numbers := row(0, 65536, 1)
	falling := slices.Clone(numbers)
	slices.Reverse(falling)
	var steps []int
	for n := range 65536 {
		steps = append(steps, n*40503%65536)
	}
	for i, l := range [][]int{numbers, falling, steps} {
		s := set(t)
		for k, n := range l {
			if s.Has(n) || s.Drop(n) != api.ErrTwice || s.Put(n) != api.OK || !s.Has(n) || s.Put(n) != api.ErrTwice {
				t.Fatalf("list %d: Put of %d", i, n)
			}
			if k%997 == 0 && s.Len() != k+1 {
				t.Fatalf("list %d: Len %d behind %d", i, s.Len(), k+1)
			}
		}
		has(t, s, numbers...)
		for k, n := range l {
			if !s.Has(n) || s.Drop(n) != api.OK || s.Has(n) || s.Drop(n) != api.ErrTwice {
				t.Fatalf("list %d: Drop of %d", i, n)
			}
			if k%997 == 0 && s.Len() != 65535-k {
				t.Fatalf("list %d: Len %d with %d gone", i, s.Len(), k+1)
			}
		}
		has(t, s)
	}
}

// P11.2: each number by itself: Has of its neighbours, and of those a word or more away.
func TestEachNumberAlone(t *testing.T) {
	s := set(t)
	for n := range 65536 {
		put(t, s, n)
		for _, d := range []int{1, 2, 31, 32, 63, 64, 65, 128, 256, 1024, 4096, 32768, 65536} {
			if s.Has(n-d) || s.Has(n+d) {
				t.Fatalf("with %d alone: Has(%d) %v, Has(%d) %v", n, n-d, s.Has(n-d), n+d, s.Has(n+d))
			}
		}
		if l := firsts(s.Each(), 2); len(l) != 1 || l[0] != n {
			t.Fatalf("with %d alone: Each %v", n, l)
		}
		if e := s.Drop(n); e != api.OK {
			t.Fatalf("Drop(%d): %v", n, e)
		}
	}
	has(t, s)
}

// P11.1: Clear of an empty set, of some and of a full one, twice, and Puts and Drops behind it.
func TestClear(t *testing.T) {
	for i, s := range []*Set{set(t), set(t, 0), set(t, 65535), set(t, edges...), set(t, row(0, 65536, 3)...), full(t)} {
		for range 2 {
			s.Clear()
			has(t, s)
		}
		for _, n := range edges {
			if e := s.Drop(n); e != api.ErrTwice {
				t.Errorf("set %d: Drop(%d) behind Clear: %v", i, n, e)
			}
			put(t, s, n)
		}
		has(t, s, edges...)
		s.Clear()
		has(t, s)
		put(t, s, 0)
		has(t, s, 0)
	}
}

// noSet asks a set that New did not make for all, twice, as nothing is to be kept in it.
func noSet(t *testing.T, name string, s *Set) {
	t.Helper()
	for range 2 {
		for _, n := range slices.Concat(edges, strangers) {
			if e := s.Put(n); e != api.ErrNil {
				t.Errorf("%s: Put(%d): %v", name, n, e)
			}
			if e := s.Drop(n); e != api.ErrNil {
				t.Errorf("%s: Drop(%d): %v", name, n, e)
			}
			if s.Has(n) {
				t.Errorf("%s: Has(%d)", name, n)
			}
		}
		s.Clear()
		if s.Len() != 0 || len(s.All()) != 0 || s.Each() == nil || told(s.Each()) != nil {
			t.Errorf("%s: Len %d, All %v", name, s.Len(), s.All())
		}
		s.Each()(nil)
		for _, other := range []*Set{nil, {}, s, set(t), set(t, 0, 64, 65535)} {
			had := other.All()
			if j, k := s.Join(other), s.Keep(other); j != 0 || k != 0 || s.Len() != 0 || s.Has(0) || !slices.Equal(other.All(), had) {
				t.Errorf("%s: with %v: Join %d, Keep %d, Len %d; the other one: %v", name, had, j, k, s.Len(), other.All())
			}
		}
	}
}

// P11.1, P11.2, P11.3: a nil set, and a plain one.
func TestNoSet(t *testing.T) {
	noSet(t, "nil", nil)
	noSet(t, "plain", &Set{})
	noSet(t, "new", new(Set))
	var plain Set
	noSet(t, "plain, not of new", &plain)
}

// P11.3: a nil set and a plain one count as empty ones, as t.
func TestWithNoSet(t *testing.T) {
	for _, none := range []*Set{nil, {}} {
		for _, there := range [][]int{nil, {5}, edges, row(0, 65536, 1)} {
			s := set(t, there...)
			if n := s.Join(none); n != 0 {
				t.Errorf("Join of none: %d", n)
			}
			has(t, s, there...)
			if n := s.Keep(none); n != len(there) {
				t.Errorf("Keep of none: %d, not %d", n, len(there))
			}
			has(t, s)
			put(t, s, 7)
			has(t, s, 7)
		}
		noSet(t, "behind it", none)
	}
}

// P11.2: All and Each of no number, of one, of two in a word, of two words, of all.
func TestAll(t *testing.T) {
	has(t, set(t))
	has(t, set(t, 0), 0)
	has(t, set(t, 65535), 65535)
	has(t, set(t, 63, 0), 0, 63)
	has(t, set(t, 64, 63), 63, 64)
	has(t, set(t, 65535, 0), 0, 65535)
	has(t, set(t, row(0, 64, 1)...), row(0, 64, 1)...)
	has(t, set(t, row(64, 128, 1)...), row(64, 128, 1)...)
	has(t, set(t, row(63, 65536, 64)...), row(63, 65536, 64)...)
	has(t, full(t), row(0, 65536, 1)...)
}

// P11.2, rule 4: a list that All told is the caller's: changing it, its spare room too, changes no set, and it is not changed by what the set does.
func TestListsApart(t *testing.T) {
	s := set(t, edges...)
	a, b := s.All(), s.All()
	for i := range a {
		a[i] = -7
	}
	a = a[:cap(a)]
	for i := range a {
		a[i] = 9
	}
	if !slices.Equal(b, edges) {
		t.Errorf("another list: %v", b)
	}
	has(t, s, edges...)
	s.Clear()
	put(t, s, 9)
	if !slices.Equal(b, edges) {
		t.Errorf("an earlier list: %v", b)
	}
}

// P11.2: an Each that is stopped tells no more, wherever it is stopped, and changes nothing.
func TestEachStopped(t *testing.T) {
	s := set(t, edges...)
	for many := 1; many <= len(edges)+1; many++ {
		if l := firsts(s.Each(), many); !slices.Equal(l, edges[:min(many, len(edges))]) {
			t.Errorf("%d of it: %v", many, l)
		}
	}
	has(t, s, edges...)
	all := full(t)
	for _, many := range []int{1, 2, 63, 64, 65, 32767, 32768, 32769, 65535, 65536} {
		if l := firsts(all.Each(), many); !slices.Equal(l, row(0, many, 1)) {
			t.Errorf("%d of all: %d of them", many, len(l))
		}
	}
	for _, there := range [][]int{{0, 1}, {0, 64}, {63, 65535}} { // the next one in the same word, and in others
		asked := 0
		set(t, there...).Each()(func(n int) bool {
			asked++
			return false
		})
		if asked != 1 {
			t.Errorf("%v: told %d numbers, stopped at the first one", there, asked)
		}
	}
	set(t).Each()(func(n int) bool {
		t.Errorf("an empty set tells %d", n)
		return true
	})
	s.Each()(nil)
}

// P11.2: what is put in while Each tells plays no part: not in the same word, not behind, not ahead.
func TestPutWhileTold(t *testing.T) {
	for _, there := range [][]int{{5}, {0, 63}, {0, 64, 200, 65534}} {
		s := set(t, there...)
		var l []int
		for n := range s.Each() {
			l = append(l, n)
			for _, more := range []int{n - 1, n + 1, n + 2, n + 64, n + 65, 65535} {
				s.Put(more)
			}
			if !s.Has(65535) {
				t.Errorf("%v: what is put in while Each tells is not there", there)
			}
		}
		if !slices.Equal(l, there) {
			t.Errorf("%v: told %v", there, l)
		}
	}
}

// P11.2: what is dropped while Each tells is told all the same.
func TestDropWhileTold(t *testing.T) {
	s := set(t, edges...)
	var l []int
	for n := range s.Each() {
		l = append(l, n)
		for _, gone := range edges {
			s.Drop(gone)
		}
		has(t, s)
	}
	if !slices.Equal(l, edges) {
		t.Errorf("told %v", l)
	}
	s = set(t, edges...)
	l = nil
	for n := range s.Each() {
		l = append(l, n)
		drop(t, s, n)
	}
	if !slices.Equal(l, edges) {
		t.Errorf("each dropped as it is told: told %v", l)
	}
	has(t, s)
}

// P11.2: so it is with Clear, Join and Keep.
func TestOthersWhileTold(t *testing.T) {
	more := set(t, row(0, 65536, 1)...)
	for name, change := range map[string]func(s *Set){
		"Clear":          func(s *Set) { s.Clear() },
		"Join":           func(s *Set) { s.Join(more) },
		"Keep":           func(s *Set) { s.Keep(nil) },
		"Clear and Put":  func(s *Set) { s.Clear(); s.Put(66); s.Put(65533) },
		"Join, then all": func(s *Set) { s.Join(more); s.Drop(0); s.Drop(65535) },
	} {
		s, want := set(t, edges...), set(t, edges...)
		change(want)
		var l []int
		for n := range s.Each() {
			if l = append(l, n); len(l) == 2 {
				change(s)
			}
		}
		if !slices.Equal(l, edges) {
			t.Errorf("%s: told %v", name, l)
		}
		has(t, s, want.All()...)
	}
}

// P11.2: an Each may be told several times, each time from the first number on, and each time what is there when that telling begins.
func TestEachAgain(t *testing.T) {
	s := set(t, 3, 64, 70)
	each := s.Each()
	for range 3 {
		if l := told(each); !slices.Equal(l, []int{3, 64, 70}) {
			t.Errorf("told again: %v", l)
		}
	}
	if l := firsts(each, 2); !slices.Equal(l, []int{3, 64}) {
		t.Errorf("two of it: %v", l)
	}
	if l := told(each); !slices.Equal(l, []int{3, 64, 70}) {
		t.Errorf("behind one that was stopped: %v", l)
	}
	put(t, s, 1)
	drop(t, s, 64)
	if l := told(each); !slices.Equal(l, []int{1, 3, 70}) {
		t.Errorf("behind a change: %v", l)
	}
	s.Clear()
	if l := told(each); l != nil {
		t.Errorf("behind Clear: %v", l)
	}
}

// P11.2: an Each within another one of the same set: neither minds the other, nor what changes within.
func TestEachWithinEach(t *testing.T) {
	s := set(t, 0, 63, 64, 65535)
	var pairs [][2]int
	for a := range s.Each() {
		for b := range s.Each() {
			if b > a {
				break
			}
			pairs = append(pairs, [2]int{a, b})
		}
	}
	if want := [][2]int{{0, 0}, {63, 0}, {63, 63}, {64, 0}, {64, 63}, {64, 64}, {65535, 0}, {65535, 63}, {65535, 64}, {65535, 65535}}; !slices.Equal(pairs, want) {
		t.Errorf("%v", pairs)
	}
	pairs = nil
	for a := range s.Each() {
		drop(t, s, a)
		for b := range s.Each() {
			pairs = append(pairs, [2]int{a, b})
		}
	}
	if want := [][2]int{{0, 63}, {0, 64}, {0, 65535}, {63, 64}, {63, 65535}, {64, 65535}}; !slices.Equal(pairs, want) {
		t.Errorf("each dropped: %v", pairs)
	}
	has(t, s)
}

// join and keep look at what both sets are behind the call, and at what is told.
func join(t *testing.T, mine, other, want []int) {
	t.Helper()
	s, o := set(t, mine...), set(t, other...)
	if n := s.Join(o); n != len(want)-len(mine) {
		t.Errorf("Join of %v and %v: %d", mine, other, n)
	}
	has(t, s, want...)
	has(t, o, other...)
	if n := s.Join(o); n != 0 {
		t.Errorf("Join of %v and %v, again: %d", mine, other, n)
	}
	has(t, s, want...)
}

func keep(t *testing.T, mine, other, want []int) {
	t.Helper()
	s, o := set(t, mine...), set(t, other...)
	if n := s.Keep(o); n != len(mine)-len(want) {
		t.Errorf("Keep of %v and %v: %d", mine, other, n)
	}
	has(t, s, want...)
	has(t, o, other...)
	if n := s.Keep(o); n != 0 {
		t.Errorf("Keep of %v and %v, again: %d", mine, other, n)
	}
	has(t, s, want...)
}

// P11.3: nothing in common, all, and some; empty sets and full ones; in one word and in several.
func TestJoinAndKeep(t *testing.T) {
	all := row(0, 65536, 1)
	even, odd := row(0, 65536, 2), row(1, 65536, 2)
	for _, x := range []struct{ mine, other, both, common []int }{
		{nil, nil, nil, nil},
		{[]int{5}, nil, []int{5}, nil},
		{[]int{5}, []int{5}, []int{5}, []int{5}},
		{[]int{5}, []int{6}, []int{5, 6}, nil},
		{[]int{0, 63}, []int{64, 65535}, []int{0, 63, 64, 65535}, nil},
		{[]int{0, 63, 64}, []int{63, 64, 65535}, []int{0, 63, 64, 65535}, []int{63, 64}},
		{[]int{1, 9}, []int{0, 1, 65, 65535}, []int{0, 1, 9, 65, 65535}, []int{1}},
		{[]int{127}, []int{63, 127, 128}, []int{63, 127, 128}, []int{127}},
		{edges, edges, edges, edges},
		{edges, nil, edges, nil},
		{edges, all, all, edges},
		{even, odd, all, nil},
		{even, all, all, even},
		{row(0, 40000, 1), row(30000, 65536, 1), all, row(30000, 40000, 1)},
		{all, all, all, all},
		{all, nil, all, nil},
		{all, []int{65535}, all, []int{65535}},
	} {
		join(t, x.mine, x.other, x.both)
		join(t, x.other, x.mine, x.both)
		keep(t, x.mine, x.other, x.common)
		keep(t, x.other, x.mine, x.common)
	}
}

// P11.3: a set joined with and kept by itself stays as it is.
func TestWithItself(t *testing.T) {
	for _, there := range [][]int{nil, {5}, {0, 65535}, edges, row(0, 65536, 1)} {
		s := set(t, there...)
		if j := s.Join(s); j != 0 {
			t.Errorf("Join of itself: %d", j)
		}
		has(t, s, there...)
		if k := s.Keep(s); k != 0 {
			t.Errorf("Keep by itself: %d", k)
		}
		has(t, s, there...)
	}
}

// P11.3: two sets that were joined or kept have nothing to do with each other behind that.
func TestApartBehindJoin(t *testing.T) {
	a, b := set(t), set(t, 3, 64)
	a.Join(b)
	put(t, a, 5)
	drop(t, a, 3)
	has(t, b, 3, 64)
	b.Clear()
	has(t, a, 5, 64)
	put(t, b, 64)
	a.Keep(b)
	put(t, b, 9)
	drop(t, b, 64)
	has(t, a, 64)
	a.Clear()
	has(t, b, 9)
}

// model tells by a map and by the chapter's words what a set has to answer.
type model map[int]struct{}

func (m model) has(n int) bool {
	_, there := m[n]
	return there
}

func (m model) put(n int) api.Errno {
	switch {
	case n < 0 || n > 65535:
		return api.ErrArg
	case m.has(n):
		return api.ErrTwice
	}
	m[n] = struct{}{}
	return api.OK
}

func (m model) drop(n int) api.Errno {
	switch {
	case n < 0 || n > 65535:
		return api.ErrArg
	case !m.has(n):
		return api.ErrTwice
	}
	delete(m, n)
	return api.OK
}

func (m model) join(o model) int {
	many := 0
	for n := range maps.Clone(o) {
		if m.put(n) == api.OK {
			many++
		}
	}
	return many
}

func (m model) keep(o model) int {
	many := 0
	for n := range maps.Clone(m) {
		if !o.has(n) {
			delete(m, n)
			many++
		}
	}
	return many
}

func (m model) all() []int { return slices.Sorted(maps.Keys(m)) }

// two are two sets and what they have to answer.
type two struct {
	sets   [2]*Set
	models [2]model
}

func makeTwo() *two { return &two{[2]*Set{New(), New()}, [2]model{{}, {}}} }

// do does a call on set i, of both, and holds what it answers against what it has to.
func (w *two) do(t *testing.T, kind, i, n int) {
	t.Helper()
	s, m := w.sets[i], w.models[i]
	o, mo := w.sets[1-i], w.models[1-i]
	got, want := 0, 0
	switch kind {
	case 0:
		got, want = int(s.Put(n)), int(m.put(n))
	case 1:
		got, want = int(s.Drop(n)), int(m.drop(n))
	case 2:
		got, want = s.Join(o), m.join(mo)
	case 3:
		got, want = s.Keep(o), m.keep(mo)
	case 4:
		s.Clear()
		clear(m)
	case 5:
		got, want = s.Join(s), 0
	case 6:
		got, want = s.Keep(s), 0
	}
	if got != want || s.Has(n) != m.has(n) {
		t.Fatalf("call of kind %d, of %d: %d, not %d; Has: %v", kind, n, got, want, s.Has(n))
	}
}

func (w *two) look(t *testing.T) {
	t.Helper()
	for i, s := range w.sets {
		has(t, s, w.models[i].all()...)
	}
}

// P11.1, P11.2, P11.3, P11.4: all rows of up to 3 calls on two sets, of numbers at the edges of words.
func TestRows(t *testing.T) {
	type call struct{ kind, i, n int }
	var calls []call
	for i := range 2 {
		for _, n := range []int{0, 63, 64, 65536} {
			calls = append(calls, call{0, i, n}, call{1, i, n})
		}
		calls = append(calls, call{2, i, 63}, call{3, i, 63}, call{4, i, 63})
	}
	var numbers []int
	var from func(left int)
	from = func(left int) {
		if left == 0 {
			w := makeTwo()
			for _, k := range numbers {
				c := calls[k]
				w.do(t, c.kind, c.i, c.n)
			}
			for i, s := range w.sets {
				if want := w.models[i].all(); !slices.Equal(s.All(), want) || s.Len() != len(want) {
					t.Fatalf("%v: %v, not %v", numbers, s.All(), want)
				}
			}
			return
		}
		for k := range calls {
			numbers = append(numbers, k)
			from(left - 1)
			numbers = numbers[:len(numbers)-1]
		}
	}
	for length := range 4 {
		from(length)
	}
}

// P11.1, P11.2, P11.3, P11.4: drawn rows of calls, of numbers that lie near one another and far apart. (The draw is the same each time.)
func TestDrawn(t *testing.T) {
	draw := rand.New(rand.NewSource(11))
	number := map[int]func() int{
		0: func() int { return draw.Intn(130) - 1 },
		1: func() int { return 65410 + draw.Intn(130) },
		2: func() int { return draw.Intn(65538) - 1 },
		3: func() int { return edges[draw.Intn(len(edges))] },
		4: func() int { return strangers[draw.Intn(len(strangers))] },
	}
	for range 60 {
		w, near := makeTwo(), draw.Intn(4)
		for step := range 500 {
			kind, from := draw.Intn(2), near
			if draw.Intn(3) == 0 {
				kind = 0
			}
			if draw.Intn(40) == 0 {
				kind = 2 + draw.Intn(5)
			}
			if draw.Intn(20) == 0 {
				from = draw.Intn(len(number))
			}
			w.do(t, kind, draw.Intn(2), number[from]())
			if step%25 == 0 {
				w.look(t)
			}
		}
		w.look(t)
	}
}

// P11.4: All rises, and has just what was put in and not dropped, whatever order that came in. (The draw is the same each time.)
func TestRise(t *testing.T) {
	draw := rand.New(rand.NewSource(114))
	for _, many := range []int{1, 2, 64, 1000, 20000, 65536} {
		order := draw.Perm(65536)[:many]
		s := set(t, order...)
		all := s.All()
		for i := 1; i < len(all); i++ {
			if all[i-1] >= all[i] {
				t.Fatalf("%d stands ahead of %d", all[i-1], all[i])
			}
		}
		has(t, s, slices.Sorted(slices.Values(order))...)
		for _, n := range order[:many/2] {
			drop(t, s, n)
		}
		has(t, s, slices.Sorted(slices.Values(order[many/2:]))...)
	}
}

// P11.2, rule 5: what is told does not hang on what was there once.
func TestNoTrace(t *testing.T) {
	s := full(t)
	s.Clear()
	put(t, s, 8)
	if n := set(t, 8, 9).Keep(s); n != 1 {
		t.Errorf("Keep: %d", n)
	}
	o := set(t, 9)
	if n := o.Join(s); n != 1 {
		t.Errorf("Join: %d", n)
	}
	has(t, o, 8, 9)
	has(t, s, 8)
}

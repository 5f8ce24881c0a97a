package forest

import (
	"math"
	"math/big"
	"slices"
	"testing"

	"gavelkind/api"
)

const most, least = math.MaxInt, math.MinInt

// far are numbers that are neither entities, nor periods; some of them look like one, if bits are cut off.
func far() []int {
	return []int{-1, -2, -24, -40, -41, 100, 256, 257, 10000, 1 << 16, 1<<16 + 1, 1 << 32, 1<<32 + 1, 1<<32 + 23, -1<<32 + 1, least, least + 1, least + 40, most - 40, most - 1, most}
}

// strangers are numbers that are no entities of a forest of so many.
func strangers(n int) []int { return append(far(), 0, n+1, n+2, -n, 41, 42) }

// st is a stake with all its numbers.
func st(entity, parent, share, from int) api.Stake {
	return api.Stake{Entity: entity, Parent: parent, Share: share, From: from}
}

// own is a stake with a share that may be, and that few others have.
func own(entity, parent, from int) api.Stake {
	if parent == 0 {
		return st(entity, 0, 10000, from)
	}
	return st(entity, parent, 9000-entity*100+parent, from)
}

func row(s ...api.Stake) []api.Stake { return s }

// chain is stakes by which each entity holds the next one, with these shares, that of entity 2 first.
func chain(shares ...int) []api.Stake {
	var l []api.Stake
	for i, share := range shares {
		l = append(l, st(i+2, i+1, share, 0))
	}
	return l
}

// many is so many stakes that may be, of three entities or more: in no period entity 1 is held.
func many(count int) []api.Stake {
	l := make([]api.Stake, count)
	for i := range l {
		l[i] = own(2+i%2, 1, i%24)
	}
	return l
}

// with is a row that has another thing at a place.
func with[T any](l []T, at int, s T) []T {
	l = slices.Clone(l)
	l[at] = s
	return l
}

// show tells a row for a fault's text: of a long one its ends.
func show(l []api.Stake) any {
	if len(l) <= 50 {
		return l
	}
	return []any{len(l), l[:10], l[len(l)-10:]}
}

// spoil writes over all of a list, its spare room, too.
func spoil[T any](l []T, odd T) {
	l = l[:cap(l)]
	for i := range l {
		l[i] = odd
	}
}

// call calls At with a row that has spare room, looks at whether all of it is as it was, and then writes over it: a forest keeps nothing of it.
func call(t *testing.T, l []api.Stake, n, period int) (*Forest, api.Errno) {
	t.Helper()
	whole := slices.Concat(l, row(st(-7, 3, 1, 2), own(1, 2, 0), api.Stake{}))
	was := slices.Clone(whole)
	f, e := At(whole[:len(l)], n, period)
	if !slices.Equal(whole, was) {
		t.Fatalf("At(%v, %d, %d): of the row, and its spare room, it made %v", show(l), n, period, show(whole))
	}
	spoil(whole, st(1, 2, 3, 0))
	return f, e
}

// made is the forest of stakes that may be.
func made(t *testing.T, l []api.Stake, n, period int) *Forest {
	t.Helper()
	f, e := call(t, l, n, period)
	if f == nil || e != api.OK {
		t.Fatalf("At(%v, %d, %d): %v, %v", show(l), n, period, f, e)
	}
	return f
}

// What has to be told, by the chapter's words.

// model is how each entity is held in a period: by whom, with which share, and who stands above it.
type model struct {
	parents, shares []int // by the entity, from 0 on
	above           [][]int
}

// wantHow tells how an entity is held: of its stakes that have begun it gathers those with the greatest From, and takes the last one of these.
func wantHow(l []api.Stake, entity, period int) (parent, share int) {
	var latest []api.Stake
	for _, s := range l {
		behind := func(other api.Stake) bool {
			return other.Entity == entity && other.From <= period && other.From > s.From
		}
		if s.Entity == entity && s.From <= period && !slices.ContainsFunc(l, behind) {
			latest = append(latest, s)
		}
	}
	if len(latest) == 0 {
		return 0, 10000
	}
	return latest[len(latest)-1].Parent, latest[len(latest)-1].Share
}

func wanted(l []api.Stake, n, period int) model {
	m := model{make([]int, n+1), make([]int, n+1), make([][]int, n+1)}
	for entity := 1; entity <= n; entity++ {
		m.parents[entity], m.shares[entity] = wantHow(l, entity, period)
	}
	for entity := 1; entity <= n; entity++ {
		for at := m.parents[entity]; at != 0; at = m.parents[at] {
			m.above[entity] = append(m.above[entity], at)
		}
	}
	return m
}

// all tells the entities of which something is so, rising.
func (m model) all(so func(entity int) bool) []int {
	var l []int
	for entity := 1; entity < len(m.parents); entity++ {
		if so(entity) {
			l = append(l, entity)
		}
	}
	return l
}

func (m model) isOne(entity int) bool { return 1 <= entity && entity < len(m.parents) }

// isUnder tells whether an entity is under another one, or is it.
func (m model) isUnder(entity, top int) bool {
	return m.isOne(entity) && m.isOne(top) && (entity == top || slices.Contains(m.above[entity], top))
}

func (m model) children(of int) []int {
	return m.all(func(entity int) bool { return m.isOne(of) && m.parents[entity] == of })
}

func (m model) under(top int) []int {
	return m.all(func(entity int) bool { return m.isUnder(entity, top) })
}

func (m model) roots() []int {
	return m.all(func(entity int) bool { return m.parents[entity] == 0 })
}

// meet tells, of all under which both are, the one that is under each of them.
func (m model) meet(a, b int) int {
	both := m.all(func(top int) bool { return m.isUnder(a, top) && m.isUnder(b, top) })
	for _, one := range both {
		if !slices.ContainsFunc(both, func(other int) bool { return !m.isUnder(one, other) }) {
			return one
		}
	}
	return 0
}

// held tells the product of the shares, the first ones first, by chapter 5's words.
func (m model) held(top, entity int) (api.Ratio, api.Errno) {
	if !m.isUnder(entity, top) {
		return api.Ratio{}, api.ErrEntity
	}
	var shares []int
	for at := entity; at != top; at = m.parents[at] {
		shares = append(shares, m.shares[at])
	}
	if slices.Contains(shares, 0) {
		return api.Ratio{Den: 1}, api.OK
	}
	product, limit := big.NewRat(1, 1), big.NewInt(1000000000000)
	for _, share := range shares {
		product.Mul(product, big.NewRat(int64(share), 10000))
		if product.Num().Cmp(limit) > 0 || product.Denom().Cmp(limit) > 0 {
			return api.Ratio{}, api.ErrOver
		}
	}
	return api.Ratio{Num: int(product.Num().Int64()), Den: int(product.Denom().Int64())}, api.OK
}

// Calls, of which what is told is held against what has to be.

// asked is a forest, its model, and how a fault's text names it.
type asked struct {
	f *Forest
	m model
	t *testing.T
	l []api.Stake
}

func ask(t *testing.T, l []api.Stake, n, period int) asked {
	t.Helper()
	return asked{made(t, l, n, period), wanted(l, n, period), t, l}
}

func (a asked) number(call string, of, is, want int) {
	a.t.Helper()
	if is != want {
		a.t.Fatalf("%v: %s(%d): %d, not %d", show(a.l), call, of, is, want)
	}
}

// list holds a list against another one, and then writes over it: it is the caller's.
func (a asked) list(call string, of int, is, want []int) {
	a.t.Helper()
	if !slices.Equal(is, want) {
		a.t.Fatalf("%v: %s(%d): %v, not %v", show(a.l), call, of, is, want)
	}
	spoil(is, -99)
}

// one makes the calls about one number.
func (a asked) one(entity int) {
	a.t.Helper()
	parent, share, above := 0, 0, []int(nil)
	if a.m.isOne(entity) {
		parent, share, above = a.m.parents[entity], a.m.shares[entity], a.m.above[entity]
	}
	a.number("Parent", entity, a.f.Parent(entity), parent)
	a.number("Share", entity, a.f.Share(entity), share)
	a.list("Children", entity, a.f.Children(entity), a.m.children(entity))
	a.list("Up", entity, a.f.Up(entity), above)
	a.list("Under", entity, a.f.Under(entity), a.m.under(entity))
}

// two makes the calls about two numbers.
func (a asked) two(x, y int) {
	a.t.Helper()
	if is, want := a.f.Meet(x, y), a.m.meet(x, y); is != want {
		a.t.Fatalf("%v: Meet(%d, %d): %d, not %d", show(a.l), x, y, is, want)
	}
	want, f := a.m.held(x, y)
	if is, e := a.f.Held(x, y); is != want || e != f {
		a.t.Fatalf("%v: Held(%d, %d): %v, %v; not %v, %v", show(a.l), x, y, is, e, want, f)
	}
}

// all makes all calls about all entities.
func (a asked) all() {
	a.t.Helper()
	a.list("Roots", 0, a.f.Roots(), a.m.roots())
	for x := range len(a.m.parents) + 1 {
		a.one(x)
		for y := range len(a.m.parents) + 1 {
			a.two(x, y)
		}
	}
	a.list("Roots", 0, a.f.Roots(), a.m.roots())
}

// strange makes all calls about numbers that are no entities.
func (a asked) strange() {
	a.t.Helper()
	n := len(a.m.parents) - 1
	for _, x := range strangers(n) {
		a.one(x)
		a.two(x, x)
		for y := 1; y <= n; y++ {
			a.two(x, y)
			a.two(y, x)
		}
		for _, y := range strangers(n) {
			a.two(x, y)
		}
	}
}

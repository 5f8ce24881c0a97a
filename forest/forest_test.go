package forest

import (
	"math/rand"
	"slices"
	"testing"

	"gavelkind/api"
	"gavelkind/stake"
)

func refuses(t *testing.T, l []api.Stake, n, period int, want api.Errno) {
	t.Helper()
	if f, e := call(t, l, n, period); f != nil || e != want {
		t.Errorf("At(%v, %d, %d): %v, %v; not %v", show(l), n, period, f, e, want)
	}
}

// P19.1: how many entities there may be, in which periods: the number of entities is looked at first.
func TestAtNumbers(t *testing.T) {
	numbers := far()
	for n := -3; n <= 45; n++ {
		numbers = append(numbers, n)
	}
	for _, n := range numbers {
		for _, period := range numbers {
			switch {
			case n < 0 || n > 40:
				refuses(t, nil, n, period, api.ErrEntity)
			case period < 0 || period > 23:
				refuses(t, nil, n, period, api.ErrPeriod)
			default:
				f := made(t, nil, n, period)
				if roots := f.Roots(); len(roots) != n {
					t.Errorf("At of nothing, %d, %d: the roots %v", n, period, roots)
				}
			}
		}
	}
}

// P19.1: of several errors at once the one that the chapter names first.
func TestAtFirstError(t *testing.T) {
	odd := api.Stake{}
	for _, x := range []struct {
		l         []api.Stake
		n, period int
		e         api.Errno
	}{
		{row(odd), -1, -1, api.ErrEntity},
		{row(odd), 41, 24, api.ErrEntity},
		{row(own(2, 1, 24)), 41, 0, api.ErrEntity},
		{row(own(2, 1, 24)), -1, 0, api.ErrEntity},
		{row(own(1, 1, 0)), 41, 0, api.ErrEntity},
		{many(401), 41, 0, api.ErrEntity},
		{many(401), 41, 24, api.ErrEntity},
		{many(401), least, most, api.ErrEntity},
		{many(401), -1, 0, api.ErrEntity},
		{row(odd), 3, -1, api.ErrPeriod},
		{row(odd), 3, 24, api.ErrPeriod},
		{row(odd), 0, 24, api.ErrPeriod},
		{row(own(1, 1, 0)), 40, 24, api.ErrPeriod},
		{row(st(2, 1, -1, 0)), 3, least, api.ErrPeriod},
		{row(st(2, 1, -1, 0)), 3, most, api.ErrPeriod},
		{many(401), 3, 24, api.ErrPeriod},
		{many(401), 3, -1, api.ErrPeriod},
		{many(401), 3, 23, api.ErrFull},
		{many(401), 0, 0, api.ErrFull},
		{with(many(401), 0, odd), 3, 0, api.ErrFull},
		{many(1000), 40, 0, api.ErrFull},
		{make([]api.Stake, 401), 3, 0, api.ErrFull},
		{make([]api.Stake, 400), 3, 0, api.ErrEntity},
		{row(own(2, 1, 24), odd), 3, 0, api.ErrPeriod},
		{row(own(1, 1, 0), own(2, 1, 24)), 3, 0, api.ErrCircle},
		{row(st(2, 1, 10001, 0), own(1, 1, 0)), 3, 0, api.ErrShare},
	} {
		refuses(t, x.l, x.n, x.period, x.e)
	}
}

// P19.1: each error of stake's Check: of a stake at each place of short rows, and at both ends of long ones, in whatever period.
func TestAtWrongStakes(t *testing.T) {
	faults := []struct {
		s api.Stake
		e api.Errno
	}{
		{api.Stake{}, api.ErrEntity},
		{own(0, 1, 0), api.ErrEntity},
		{own(-1, 1, 0), api.ErrEntity},
		{own(4, 1, 0), api.ErrEntity},
		{own(4, 0, 0), api.ErrEntity},
		{own(most, 1, 0), api.ErrEntity},
		{own(1<<32+2, 1, 0), api.ErrEntity},
		{st(2, 4, 5, 0), api.ErrEntity},
		{st(2, -1, 5, 0), api.ErrEntity},
		{st(2, least, 5, 23), api.ErrEntity},
		{st(2, 1, -1, 0), api.ErrShare},
		{st(2, 1, 10001, 0), api.ErrShare},
		{st(2, 1, 1<<32, 23), api.ErrShare},
		{st(2, 0, 9999, 0), api.ErrShare},
		{st(2, 0, 0, 0), api.ErrShare},
		{own(2, 1, -1), api.ErrPeriod},
		{own(2, 1, 24), api.ErrPeriod},
		{own(2, 1, most), api.ErrPeriod},
		{own(2, 0, least), api.ErrPeriod},
		{own(2, 2, 0), api.ErrCircle},
		{own(3, 3, 23), api.ErrCircle},
	}
	for _, x := range faults {
		for _, count := range []int{1, 2, 3, 24, 399, 400} {
			for _, at := range []int{0, count / 2, count - 1} {
				for _, period := range []int{0, 1, 22, 23} {
					refuses(t, with(many(count), at, x.s), 3, period, x.e)
				}
			}
		}
		refuses(t, with(many(401), 0, x.s), 3, 0, api.ErrFull)
		refuses(t, with(many(401), 400, x.s), 3, 0, api.ErrFull)
	}
	for _, period := range []int{0, 23} {
		for count := 1; count <= 400; count += 57 {
			made(t, many(count), 3, period)
		}
		made(t, many(399), 3, period)
		made(t, many(400), 3, period)
	}
}

// P19.1: a stake that may not be is told also where it plays no part in that period; and more entities than stakes name are no fault, fewer are one.
func TestAtStakesElsewhere(t *testing.T) {
	for _, x := range []struct {
		l         []api.Stake
		n, period int
		e         api.Errno
	}{
		{row(own(1, 1, 9)), 3, 0, api.ErrCircle},                             // it begins later
		{row(own(1, 1, 9), own(1, 0, 9)), 3, 9, api.ErrCircle},               // another one took its place
		{row(own(1, 1, 3), own(1, 0, 9)), 3, 12, api.ErrCircle},              // it ended
		{row(own(2, 1, 5), own(1, 2, 5), own(1, 0, 6)), 3, 4, api.ErrCircle}, // in that period alone
		{row(own(2, 1, 5), own(1, 2, 5), own(1, 0, 6)), 3, 6, api.ErrCircle},
		{row(own(1, 2, 0), own(2, 1, 23)), 3, 22, api.ErrCircle},
		{row(own(1, 2, 0), own(1, 0, 23), own(2, 1, 23)), 3, 22, api.OK},
		{row(own(1, 2, 0), own(1, 0, 23), own(2, 1, 23)), 3, 23, api.OK},
		{row(own(2, 1, 24)), 3, 23, api.ErrPeriod},
		{row(st(2, 1, 10001, 9)), 3, 8, api.ErrShare},
		{row(st(2, 1, 10001, 9), own(2, 1, 9)), 3, 9, api.ErrShare},
		{row(st(2, 0, 5, 9)), 3, 8, api.ErrShare},
		{row(own(4, 1, 9)), 3, 8, api.ErrEntity},
		{row(own(2, 4, 9)), 3, 8, api.ErrEntity},
		{row(own(2, 4, 9)), 4, 8, api.OK},
		{row(own(4, 1, 9)), 4, 8, api.OK},
		{row(own(2, 4, 9), own(2, 1, 9)), 3, 9, api.ErrEntity},
		{row(own(2, 1, 0)), 2, 0, api.OK},
		{row(own(2, 1, 0)), 1, 0, api.ErrEntity},
		{row(own(1, 2, 0)), 1, 0, api.ErrEntity},
		{row(own(2, 1, 0)), 0, 0, api.ErrEntity},
		{row(own(1, 0, 0)), 1, 0, api.OK},
		{row(own(1, 0, 0)), 0, 0, api.ErrEntity},
		{row(own(40, 39, 0)), 40, 0, api.OK},
		{row(own(40, 39, 0)), 39, 0, api.ErrEntity},
		{row(own(39, 40, 0)), 39, 0, api.ErrEntity},
		{row(own(41, 40, 0)), 40, 0, api.ErrEntity},
		{row(own(41, 40, 0)), 41, 0, api.ErrEntity},
	} {
		if x.e != api.OK {
			refuses(t, x.l, x.n, x.period, x.e)
			continue
		}
		ask(t, x.l, x.n, x.period).all()
	}
}

func list(n ...int) []int { return n }

// told is what a forest has to tell of an entity, written out.
type told struct {
	entity, parent, share int
	children, up, under   []int
}

func (x told) look(t *testing.T, f *Forest) {
	t.Helper()
	if parent, share := f.Parent(x.entity), f.Share(x.entity); parent != x.parent || share != x.share {
		t.Errorf("%d is held by %d with %d, not by %d with %d", x.entity, parent, share, x.parent, x.share)
	}
	if children := f.Children(x.entity); !slices.Equal(children, x.children) {
		t.Errorf("Children(%d): %v, not %v", x.entity, children, x.children)
	}
	if up := f.Up(x.entity); !slices.Equal(up, x.up) {
		t.Errorf("Up(%d): %v, not %v", x.entity, up, x.up)
	}
	if under := f.Under(x.entity); !slices.Equal(under, x.under) {
		t.Errorf("Under(%d): %v, not %v", x.entity, under, x.under)
	}
}

// group is nine entities: their stakes stand in no order, of those of 4 from 3 on the last one counts, 2 is let go from 5 on, 9 has none.
func group() []api.Stake {
	return row(st(2, 0, 10000, 5), st(5, 2, 5000, 0), st(2, 7, 9000, 3), st(4, 2, 2500, 0), st(6, 4, 0, 0), st(4, 3, 1, 3), st(3, 1, 10000, 0), st(8, 7, 6000, 0), st(2, 1, 8000, 0), st(4, 5, 7500, 3))
}

// P19.2: what is told of each entity, written out, in the first and the last period in which things are so.
func TestGroup(t *testing.T) {
	alike := []told{
		{3, 1, 10000, nil, list(1), list(3)},
		{7, 0, 10000, list(8), nil, list(7, 8)},
		{8, 7, 6000, nil, list(7), list(8)},
		{9, 0, 10000, nil, nil, list(9)},
		{0, 0, 0, nil, nil, nil},
		{10, 0, 0, nil, nil, nil},
	}
	for _, x := range []struct {
		periods, roots []int
		all            []told
	}{
		{list(0, 1, 2), list(1, 7, 9), append([]told{
			{1, 0, 10000, list(2, 3), nil, list(1, 2, 3, 4, 5, 6)},
			{2, 1, 8000, list(4, 5), list(1), list(2, 4, 5, 6)},
			{4, 2, 2500, list(6), list(2, 1), list(4, 6)},
			{5, 2, 5000, nil, list(2, 1), list(5)},
			{6, 4, 0, nil, list(4, 2, 1), list(6)},
		}, alike...)},
		{list(3, 4), list(1, 7, 9), append([]told{
			{1, 0, 10000, list(3), nil, list(1, 3)},
			{2, 7, 9000, list(5), list(7), list(2, 4, 5, 6)},
			{4, 5, 7500, list(6), list(5, 2, 7), list(4, 6)},
			{5, 2, 5000, list(4), list(2, 7), list(4, 5, 6)},
			{6, 4, 0, nil, list(4, 5, 2, 7), list(6)},
		}, with(alike, 1, told{7, 0, 10000, list(2, 8), nil, list(2, 4, 5, 6, 7, 8)})...)},
		{list(5, 6, 22, 23), list(1, 2, 7, 9), append([]told{
			{1, 0, 10000, list(3), nil, list(1, 3)},
			{2, 0, 10000, list(5), nil, list(2, 4, 5, 6)},
			{4, 5, 7500, list(6), list(5, 2), list(4, 6)},
			{5, 2, 5000, list(4), list(2), list(4, 5, 6)},
			{6, 4, 0, nil, list(4, 5, 2), list(6)},
		}, alike...)},
	} {
		for _, period := range x.periods {
			f := made(t, group(), 9, period)
			for _, one := range x.all {
				one.look(t, f)
			}
			if roots := f.Roots(); !slices.Equal(roots, x.roots) {
				t.Errorf("Roots in %d: %v, not %v", period, roots, x.roots)
			}
			ask(t, group(), 9, period).all()
		}
	}
}

// P19.3: where two meet, written out.
func TestMeet(t *testing.T) {
	for _, x := range []struct{ period, a, b, meet int }{
		{0, 1, 1, 1}, {0, 6, 6, 6}, {0, 9, 9, 9}, // with itself
		{0, 1, 2, 1}, {0, 4, 6, 4}, {0, 7, 8, 7}, // with the one that holds it
		{0, 1, 6, 1}, {0, 2, 6, 2}, // with one far above it
		{0, 4, 5, 2}, {0, 2, 3, 1}, // of one parent
		{0, 6, 5, 2}, {0, 6, 3, 1}, {0, 3, 4, 1}, // on different heights
		{0, 1, 7, 0}, {0, 6, 8, 0}, {0, 9, 1, 0}, {0, 9, 8, 0}, // in different trees
		{0, 1, 0, 0}, {0, 0, 0, 0}, {0, 1, 10, 0}, {0, 9, 10, 0}, {0, 10, 10, 0}, {0, -1, 1, 0}, {0, 1, most, 0}, {0, 6, least, 0}, // of no entity
		{3, 4, 5, 5}, {3, 6, 8, 7}, {3, 6, 3, 0}, {3, 2, 1, 0}, {3, 6, 7, 7},
		{5, 6, 8, 0}, {5, 6, 2, 2}, {5, 2, 7, 0}, {5, 3, 1, 1},
	} {
		f := made(t, group(), 9, x.period)
		if there, back := f.Meet(x.a, x.b), f.Meet(x.b, x.a); there != x.meet || back != x.meet {
			t.Errorf("in %d Meet of %d and %d: %d, %d; not %d", x.period, x.a, x.b, there, back, x.meet)
		}
	}
}

func of(num, den int) api.Ratio { return api.Ratio{Num: num, Den: den} }

// P19.3: with which share one is held, over all steps, written out; of one that is not under another one nothing is told.
func TestHeld(t *testing.T) {
	for _, x := range []struct {
		period, top, entity int
		r                   api.Ratio
		e                   api.Errno
	}{
		{0, 1, 1, of(1, 1), api.OK}, {0, 2, 2, of(1, 1), api.OK}, {0, 6, 6, of(1, 1), api.OK}, {0, 9, 9, of(1, 1), api.OK},
		{0, 1, 2, of(4, 5), api.OK}, {0, 1, 3, of(1, 1), api.OK}, {0, 2, 4, of(1, 4), api.OK}, {0, 4, 6, of(0, 1), api.OK},
		{0, 1, 4, of(1, 5), api.OK}, {0, 1, 5, of(2, 5), api.OK}, {0, 2, 6, of(0, 1), api.OK}, {0, 1, 6, of(0, 1), api.OK},
		{0, 7, 8, of(3, 5), api.OK},
		{0, 2, 1, of(0, 0), api.ErrEntity}, {0, 6, 1, of(0, 0), api.ErrEntity}, {0, 6, 4, of(0, 0), api.ErrEntity},
		{0, 2, 3, of(0, 0), api.ErrEntity}, {0, 4, 5, of(0, 0), api.ErrEntity}, {0, 7, 6, of(0, 0), api.ErrEntity}, {0, 9, 1, of(0, 0), api.ErrEntity},
		{0, 0, 0, of(0, 0), api.ErrEntity}, {0, 0, 1, of(0, 0), api.ErrEntity}, {0, 1, 0, of(0, 0), api.ErrEntity}, {0, 0, 6, of(0, 0), api.ErrEntity},
		{0, 10, 10, of(0, 0), api.ErrEntity}, {0, 1, 10, of(0, 0), api.ErrEntity}, {0, 10, 1, of(0, 0), api.ErrEntity}, {0, -1, -1, of(0, 0), api.ErrEntity},
		{0, least, least, of(0, 0), api.ErrEntity}, {0, most, most, of(0, 0), api.ErrEntity}, {0, most, 1, of(0, 0), api.ErrEntity}, {0, 1, least, of(0, 0), api.ErrEntity},
		{3, 7, 4, of(27, 80), api.OK}, {3, 2, 4, of(3, 8), api.OK}, {3, 5, 4, of(3, 4), api.OK}, {3, 7, 6, of(0, 1), api.OK}, {3, 7, 2, of(9, 10), api.OK},
		{3, 1, 2, of(0, 0), api.ErrEntity}, {3, 3, 4, of(0, 0), api.ErrEntity},
		{5, 2, 4, of(3, 8), api.OK}, {5, 7, 4, of(0, 0), api.ErrEntity}, {5, 7, 2, of(0, 0), api.ErrEntity},
	} {
		if r, e := made(t, group(), 9, x.period).Held(x.top, x.entity); r != x.r || e != x.e {
			t.Errorf("in %d Held(%d, %d): %v, %v; not %v, %v", x.period, x.top, x.entity, r, e, x.r, x.e)
		}
	}
}

// same is so many shares that are alike, with others behind.
func same(count, share int, others ...int) []int {
	return append(slices.Repeat(list(share), count), others...)
}

// P19.3: of long chains: the shares are taken from the entity upward, that of the top itself plays no part, and the product of the first ones may leave its range.
func TestHeldOfChains(t *testing.T) {
	for _, x := range []struct {
		shares      []int // that of entity 2, which 1 holds, first
		top, entity int
		r           api.Ratio
		e           api.Errno
	}{
		{list(1, 1, 1), 1, 4, of(1, 1000000000000), api.OK},
		{list(1, 1, 1, 1), 1, 5, of(0, 0), api.ErrOver},
		{list(1, 1, 1, 1), 2, 5, of(1, 1000000000000), api.OK},
		{list(1, 1, 1, 1), 1, 4, of(1, 1000000000000), api.OK},
		{list(1, 1, 1, 1), 5, 5, of(1, 1), api.OK},
		{list(1, 10000, 1, 10000, 1), 1, 6, of(1, 1000000000000), api.OK},
		{list(9999, 9999, 9999), 1, 4, of(999700029999, 1000000000000), api.OK},
		{list(9999, 9999, 9999, 5000), 1, 5, of(0, 0), api.ErrOver},
		{list(5000, 9999, 9999, 9999), 1, 5, of(0, 0), api.ErrOver},
		{list(5000, 9999, 9999, 9999), 2, 5, of(999700029999, 1000000000000), api.OK},
		{same(39, 10000), 1, 40, of(1, 1), api.OK},
		{same(39, 5000), 1, 40, of(1, 1<<39), api.OK},
		{same(38, 5000, 2500), 1, 40, of(0, 0), api.ErrOver},
		{same(39, 2500), 1, 20, of(1, 1<<38), api.OK},
		{same(39, 2500), 1, 21, of(0, 0), api.ErrOver},
		{same(39, 2500), 21, 40, of(1, 1<<38), api.OK},
		{same(39, 2500), 20, 40, of(0, 0), api.ErrOver},
		{same(39, 2500), 40, 39, of(0, 0), api.ErrEntity},
		{same(39, 9999), 37, 40, of(999700029999, 1000000000000), api.OK},
		{same(39, 9999), 36, 40, of(0, 0), api.ErrOver},
		// the whole product is in its range; that of the first ones is so only if the entity's own share, or that of the one that the top holds, stands ahead
		{same(10, 3125, 8192), 1, 12, of(15625, 1<<31), api.OK},
		{append(list(8192), same(10, 3125)...), 1, 12, of(0, 0), api.ErrOver},
		{append(list(8192), same(10, 3125)...), 2, 12, of(0, 0), api.ErrOver},
		{append(list(8192), same(10, 3125)...), 1, 11, of(15625/5, 1<<27), api.OK},
		// a 0 on the way, wherever it stands; at the top itself it plays no part
		{list(0, 5000, 2500), 1, 4, of(0, 1), api.OK},
		{list(5000, 0, 2500), 1, 4, of(0, 1), api.OK},
		{list(5000, 2500, 0), 1, 4, of(0, 1), api.OK},
		{list(0, 5000, 2500), 2, 4, of(1, 8), api.OK},
		{list(5000, 0, 2500), 3, 4, of(1, 4), api.OK},
		{list(5000, 2500, 0), 4, 4, of(1, 1), api.OK},
		{list(5000, 2500, 0), 1, 3, of(1, 8), api.OK},
		{same(8, 1, 0), 1, 10, of(0, 1), api.OK},
		{append(list(0), same(8, 1)...), 1, 10, of(0, 1), api.OK},
		{append(list(0), same(8, 1)...), 2, 10, of(0, 0), api.ErrOver},
		{same(4, 1, 0, 1, 1, 1, 1), 1, 10, of(0, 1), api.OK},
	} {
		l := chain(x.shares...)
		if r, e := made(t, l, 40, 7).Held(x.top, x.entity); r != x.r || e != x.e {
			t.Errorf("with %v Held(%d, %d): %v, %v; not %v, %v", x.shares, x.top, x.entity, r, e, x.r, x.e)
		}
		ask(t, l, len(l)+1, 7).all()
	}
}

// P19.2, P19.3: long chains of all 40, whose entities rise, fall, or stand in no order; the nearest one comes first.
func TestChains(t *testing.T) {
	for _, step := range []int{1, 40, 7, 24} { // as 41 is a prime, the entities by such a step are all 40
		var l []api.Stake
		var line []int // from the root downward
		for i := 1; i <= 40; i++ {
			line = append(line, i*step%41)
			if i > 1 {
				l = append(l, st(line[i-1], line[i-2], 10000, i%24))
			}
		}
		f := made(t, l, 40, 23)
		for i, entity := range line {
			up, under := slices.Clone(line[:i]), slices.Sorted(slices.Values(line[i:]))
			slices.Reverse(up)
			one := told{entity, 0, 10000, nil, up, under}
			if i > 0 {
				one.parent = line[i-1]
			}
			if i < 39 {
				one.children = line[i+1 : i+2]
			}
			one.look(t, f)
			if meet := f.Meet(entity, line[39]); meet != entity {
				t.Errorf("Meet of %d and the lowest one: %d", entity, meet)
			}
		}
		if roots := f.Roots(); !slices.Equal(roots, line[:1]) {
			t.Errorf("Roots: %v, not %v", roots, line[:1])
		}
		ask(t, l, 40, 23).all()
		ask(t, l, 40, 11).all()
	}
}

// P19.2, P19.3: one that holds all others, whatever the order of their stakes is; and entities of which none is held.
func TestWide(t *testing.T) {
	r := rand.New(rand.NewSource(1))
	for _, top := range []int{1, 20, 40} {
		var l []api.Stake
		var others []int
		for _, i := range r.Perm(40) {
			if i+1 != top {
				l, others = append(l, own(i+1, top, i%3)), append(others, i+1)
			}
		}
		slices.Sort(others)
		all := slices.Sorted(slices.Values(append(list(top), others...)))
		f := made(t, l, 40, 2)
		told{top, 0, 10000, others, nil, all}.look(t, f)
		for _, other := range others {
			told{other, top, 9000 - other*100 + top, nil, list(top), list(other)}.look(t, f)
		}
		if roots := f.Roots(); !slices.Equal(roots, list(top)) {
			t.Errorf("Roots: %v, not %d", roots, top)
		}
		for period := range 3 {
			ask(t, l, 40, period).all()
		}
	}
	for _, n := range []int{1, 2, 39, 40} {
		f := made(t, nil, n, 0)
		for entity := 1; entity <= n; entity++ {
			told{entity, 0, 10000, nil, nil, list(entity)}.look(t, f)
		}
		a := ask(t, nil, n, 0)
		a.all()
		if len(f.Roots()) != n {
			t.Errorf("Roots of %d: %v", n, f.Roots())
		}
	}
}

// P19.2, P19.3: the chapter's example, a single tree.
func TestExample(t *testing.T) {
	f := made(t, row(own(2, 1, 0), own(3, 1, 0), own(4, 2, 0)), 4, 0)
	if under := f.Under(2); f.Meet(4, 3) != 1 || !slices.Equal(under, list(2, 4)) {
		t.Errorf("Meet of 4 and 3: %d; Under of 2: %v", f.Meet(4, 3), under)
	}
	if roots := f.Roots(); !slices.Equal(roots, list(1)) {
		t.Errorf("Roots: %v", roots)
	}
}

// P19.2, P19.3: a nil forest, a plain one, and one of no entities have no entity.
func TestNoEntities(t *testing.T) {
	var plain Forest
	for _, f := range []*Forest{nil, {}, &plain, made(t, nil, 0, 0), made(t, nil, 0, 23), made(t, []api.Stake{}, 0, 7)} {
		a := asked{f, wanted(nil, 0, 0), t, nil}
		a.all()
		a.strange()
		for x := -1; x <= 42; x++ {
			a.one(x)
			for y := -1; y <= 42; y++ {
				a.two(x, y)
			}
		}
		if r, e := f.Held(1, 1); r != of(0, 0) || e != api.ErrEntity || f.Meet(1, 1) != 0 || f.Share(1) != 0 || len(f.Roots()) != 0 {
			t.Errorf("Held: %v, %v; Meet: %d; Share: %d; Roots: %v", r, e, f.Meet(1, 1), f.Share(1), f.Roots())
		}
	}
}

// P19.2, P19.3: numbers that are no entities, with and without stakes; those above n that others have are none here.
func TestStrangers(t *testing.T) {
	ask(t, group(), 9, 3).strange()
	for _, n := range []int{1, 2, 7, 39, 40} {
		ask(t, nil, n, 0).strange()
		ask(t, chain(same(n-1, 5000)...), n, 12).strange()
	}
	for n := 9; n <= 40; n++ {
		f := made(t, group(), n, 0)
		for x := n + 1; x <= 42; x++ {
			told{x, 0, 0, nil, nil, nil}.look(t, f)
			if r, e := f.Held(x, x); f.Meet(x, x) != 0 || r != of(0, 0) || e != api.ErrEntity {
				t.Errorf("of %d: Meet %d, Held %v, %v", x, f.Meet(x, x), r, e)
			}
		}
		told{n, f.Parent(n), 10000, nil, nil, list(n)}.look(t, f)
	}
}

// P19.2: each list is new: what is written into it changes no other one, and no answer behind it.
func TestNewLists(t *testing.T) {
	f := made(t, group(), 9, 0)
	for _, x := range []struct {
		call func() []int
		want []int
	}{
		{func() []int { return f.Children(1) }, list(2, 3)},
		{func() []int { return f.Up(6) }, list(4, 2, 1)},
		{func() []int { return f.Under(2) }, list(2, 4, 5, 6)},
		{func() []int { return f.Roots() }, list(1, 7, 9)},
	} {
		a, b := x.call(), x.call()
		spoil(a, 8)
		if c := x.call(); !slices.Equal(b, x.want) || !slices.Equal(c, x.want) {
			t.Errorf("the first one written over: %v and %v, not %v", b, c, x.want)
		}
		spoil(b, 3)
	}
	a := asked{f, wanted(group(), 9, 0), t, group()}
	a.all()
	a.all()
}

// P19.1: each forest stays as it was made, whatever others are made behind it, and whatever becomes of the stakes.
func TestForestsStay(t *testing.T) {
	l := group()
	var forests [24]*Forest
	for period := range forests {
		f, e := At(l, 9, period)
		if e != api.OK {
			t.Fatalf("At(%v, 9, %d): %v", l, period, e)
		}
		forests[period] = f
	}
	spoil(l, st(9, 8, 7, 0))
	made(t, chain(same(39, 5000)...), 40, 0)
	for period, f := range forests {
		a := asked{f, wanted(group(), 9, period), t, group()}
		a.all()
		a.strange()
	}
}

// each tells all ways in which entities of n can be held, each by one of them or by none, also those that go round.
func each(n int, tell func(parents []int)) {
	parents := make([]int, n)
	for {
		tell(parents)
		at := 0
		for at < n && parents[at] == n {
			parents[at] = 0
			at++
		}
		if at == n {
			return
		}
		parents[at]++
	}
}

// goesRound tells whether an entity comes back to itself by these parents.
func goesRound(parents []int) bool {
	for entity := range parents {
		at, steps := entity+1, 0
		for at != 0 && steps <= len(parents) {
			at, steps = parents[at-1], steps+1
		}
		if at != 0 {
			return true
		}
	}
	return false
}

// P19.1 to P19.3: all forests of up to 5 entities; those that would go round are none.
func TestAllSmallForests(t *testing.T) {
	r := rand.New(rand.NewSource(2))
	shares := list(5000, 0, 10000, 3333, 8192, 3125, 1, 9999)
	for n := range 6 {
		count := 0
		each(n, func(parents []int) {
			var l []api.Stake
			for _, at := range r.Perm(n) {
				if parents[at] != 0 {
					l = append(l, st(at+1, parents[at], shares[r.Intn(len(shares))], 3))
				} else if r.Intn(2) == 0 {
					l = append(l, own(at+1, 0, 3))
				}
			}
			if goesRound(parents) {
				refuses(t, l, n, r.Intn(24), api.ErrCircle)
				return
			}
			count++
			ask(t, l, n, 3).all()
		})
		if want := list(1, 1, 3, 16, 125, 1296)[n]; count != want {
			t.Errorf("%d forests of %d entities, not %d", count, n, want)
		}
	}
}

// drawnStake is a stake of n entities that may be, unless it goes round, with few Froms, if so asked; its share is often one of which long products stay in their range.
func drawnStake(r *rand.Rand, n, froms int) api.Stake {
	s := st(1+r.Intn(n), r.Intn(n+1), list(0, 1250, 2500, 3125, 5000, 5000, 8192, 10000, 10000, r.Intn(10001))[r.Intn(10)], 24/froms*r.Intn(froms))
	if s.Parent == 0 {
		s.Share = 10000
	}
	return s
}

// grown is a row that comes of stake's Adds: those that are refused are left out.
func grown(r *rand.Rand, tries, n, froms int) []api.Stake {
	var l []api.Stake
	for range tries {
		if m, e := stake.Add(l, drawnStake(r, n, froms), n); e == api.OK {
			l = m
		}
	}
	return l
}

// spoilt is a row, one number of which is another one.
func spoilt(r *rand.Rand, l []api.Stake) []api.Stake {
	l = slices.Clone(l)
	if len(l) == 0 {
		return l
	}
	s, n := &l[r.Intn(len(l))], far()[r.Intn(len(far()))]
	*[]*int{&s.Entity, &s.Parent, &s.Share, &s.From}[r.Intn(4)] = n
	return l
}

// P19.1 to P19.3: drawn calls, and errors that are those of stake's Check. (The draw is the same each time.)
func TestDrawn(t *testing.T) {
	r := rand.New(rand.NewSource(3))
	for range 1500 {
		n, froms := 1+r.Intn(9), list(1, 2, 6, 24)[r.Intn(4)]
		l := grown(r, r.Intn(40), n, froms)
		for range 2 {
			ask(t, l, n, r.Intn(24)).all()
		}
		ask(t, l, n+r.Intn(41-n), r.Intn(24)).strange()
		for _, m := range [][]api.Stake{spoilt(r, l), slices.Concat(l, row(drawnStake(r, n, froms))), slices.Concat(l, row(own(1, n, 0), own(n, 1, 0)))} {
			if _, e := stake.Check(m, n); e != api.OK {
				refuses(t, m, n, r.Intn(24), e)
			}
			if _, e := stake.Check(m, n-1); e != api.OK {
				refuses(t, m, n-1, r.Intn(24), e)
			}
		}
	}
	for range 12 {
		l := grown(r, 900, 40, 24)
		for range 3 {
			ask(t, l, 40, r.Intn(24)).all()
		}
	}
}

// drawn are forests, to be asked by their own calls alone.
func drawn(t *testing.T, count int, seed int64, look func(f *Forest, n int)) {
	t.Helper()
	r := rand.New(rand.NewSource(seed))
	for range count {
		n, froms := r.Intn(12), list(1, 6, 24)[r.Intn(3)]
		if r.Intn(20) == 0 {
			n = 40
		}
		var l []api.Stake
		if n > 0 {
			l = grown(r, r.Intn(5*n), n, froms)
		}
		look(made(t, l, n, r.Intn(24)), n)
	}
}

// P19.4: each entity but the Roots is a child of its Parent, and of no other one; b is under a just if a is b, or above b.
func TestTree(t *testing.T) {
	drawn(t, 600, 4, func(f *Forest, n int) {
		roots := f.Roots()
		for b := 1; b <= n; b++ {
			if slices.Contains(roots, b) != (f.Parent(b) == 0) {
				t.Fatalf("the roots %v; %d is held by %d", roots, b, f.Parent(b))
			}
			for a := -1; a <= n+1; a++ {
				if is := slices.Contains(f.Children(a), b); is != (a != 0 && a == f.Parent(b)) {
					t.Fatalf("the children of %d: %v; %d is held by %d", a, f.Children(a), b, f.Parent(b))
				}
				if is := slices.Contains(f.Under(a), b); is != (a == b || slices.Contains(f.Up(b), a)) {
					t.Fatalf("under %d: %v; above %d: %v", a, f.Under(a), b, f.Up(b))
				}
			}
		}
	})
}

// P19.5: both are under where they Meet, and under none lower; each entity meets itself there; two meet just if they are under one Root.
func TestLowest(t *testing.T) {
	drawn(t, 600, 5, func(f *Forest, n int) {
		under := make([][]int, n+1)
		for top := 1; top <= n; top++ {
			under[top] = f.Under(top)
		}
		roots := f.Roots()
		for a := 1; a <= n; a++ {
			if meet := f.Meet(a, a); meet != a {
				t.Fatalf("%d meets itself at %d", a, meet)
			}
			for b := 1; b <= n; b++ {
				meet := f.Meet(a, b)
				areUnder := func(top int) bool { return slices.Contains(under[top], a) && slices.Contains(under[top], b) }
				if one := slices.ContainsFunc(roots, areUnder); one != (meet != 0) {
					t.Fatalf("%d and %d meet at %d; under one root: %v", a, b, meet, one)
				}
				if meet != 0 && (!areUnder(meet) || slices.ContainsFunc(f.Children(meet), areUnder)) {
					t.Fatalf("%d and %d meet at %d, under which are %v", a, b, meet, under[meet])
				}
			}
		}
	})
}

// P19.3: who is Held is under it; over two ways, one behind the other, the shares multiply.
func TestHeldByUnder(t *testing.T) {
	drawn(t, 400, 6, func(f *Forest, n int) {
		for top := 1; top <= n; top++ {
			under := f.Under(top)
			for entity := 1; entity <= n; entity++ {
				r, e := f.Held(top, entity)
				if (e == api.ErrEntity) == slices.Contains(under, entity) || e != api.OK && r != of(0, 0) || e == api.OK && (r.Num < 0 || r.Num > r.Den) {
					t.Fatalf("Held(%d, %d): %v, %v; under %d are %v", top, entity, r, e, top, under)
				}
				if f.Parent(entity) == top && r.Num*10000 != f.Share(entity)*r.Den {
					t.Fatalf("Held(%d, %d): %v, with a share of %d", top, entity, r, f.Share(entity))
				}
			}
		}
	})
}

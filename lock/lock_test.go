package lock

import (
	"math/rand"
	"slices"
	"testing"

	"gavelkind/api"
)

// refuses looks at whether Check tells a place and an error, written out; and what the model tells.
func refuses(t *testing.T, l []api.Lock, n, at int, e api.Errno) {
	t.Helper()
	if isAt, is := Check(l, n); isAt != at || is != e {
		t.Errorf("Check(%v, %d): %d, %v; not %d, %v", show(l), n, isAt, is, at, e)
	}
	checks(t, l, n)
}

func accepts(t *testing.T, l []api.Lock, n int) {
	t.Helper()
	refuses(t, l, n, len(l), api.OK)
}

// fault is a lock of 40 entities that may not be behind a lock of 5 in period 0, and why.
type fault struct {
	x api.Lock
	e api.Errno
}

func faults() []fault {
	return []fault{
		{lk(0, 20), api.ErrEntity},
		{lk(41, 20), api.ErrEntity},
		{lk(-1, 23), api.ErrEntity},
		{lk(6, -1), api.ErrPeriod},
		{lk(6, 24), api.ErrPeriod},
		{lk(5, 0), api.ErrTwice},
		// several at once
		{api.Lock{}, api.ErrEntity},
		{lk(0, -1), api.ErrEntity},
		{lk(0, 24), api.ErrEntity},
		{lk(41, -1), api.ErrEntity},
		{lk(41, most), api.ErrEntity},
		{lk(least, least), api.ErrEntity},
		{lk(5, -1), api.ErrPeriod},
		{lk(5, least), api.ErrPeriod},
	}
}

// P22.1: how many locks there may be, with a fault at the first place, in the middle and at the last one: ErrFull ahead of all others.
func TestCheckHowMany(t *testing.T) {
	for _, n := range append(far(), 0, 1, 40, 41) {
		accepts(t, nil, n)
		accepts(t, row(), n)
	}
	accepts(t, row(lk(1, 0)), 1)
	for _, count := range []int{1, 2, 3, 39, 40, 41, 200, 399, 400} {
		accepts(t, many(count), 40)
		accepts(t, many(count), most)
		for _, x := range faults() {
			if x.e != api.ErrTwice {
				refuses(t, with(many(count), x.x, 0), 40, 0, x.e)
			}
			if count > 5 { // behind the lock of 5 in period 0
				refuses(t, with(many(count), x.x, count/2), 40, max(count/2, 5), x.e)
				refuses(t, with(many(count), x.x, count-1), 40, count-1, x.e)
			}
		}
		refuses(t, slices.Repeat(row(lk(1, 24)), count), 1, 0, api.ErrPeriod)
		refuses(t, make([]api.Lock, count), 1, 0, api.ErrEntity)
	}
	for _, count := range []int{401, 402, 656, 800, 960, 1 << 16, 1<<16 + 1} {
		refuses(t, many(count), 40, 0, api.ErrFull)
		refuses(t, many(count), 0, 0, api.ErrFull)
		refuses(t, make([]api.Lock, count), 1, 0, api.ErrFull)
		for _, x := range faults() {
			for _, at := range []int{0, 200, 399, 400} {
				refuses(t, with(many(count), x.x, at), 40, 0, api.ErrFull)
			}
		}
	}
}

// P22.1: of one lock ErrEntity ahead of ErrPeriod ahead of ErrTwice; of two wrong locks the first one's.
func TestCheckFirst(t *testing.T) {
	five := lk(5, 0)
	for _, x := range faults() {
		refuses(t, row(five, x.x), 40, 1, x.e)
		refuses(t, row(five, lk(7, 3), x.x, lk(7, 4)), 40, 2, x.e)
		for _, y := range faults() {
			refuses(t, row(five, x.x, y.x), 40, 1, x.e)
			refuses(t, row(five, x.x, lk(7, 3), y.x), 40, 1, x.e)
			refuses(t, row(lk(7, 3), five, lk(8, 3), x.x, y.x), 40, 3, x.e)
		}
	}
	refuses(t, row(lk(0, 3), lk(0, 3)), 5, 0, api.ErrEntity)            // also if it stands there twice
	refuses(t, row(lk(1, 3), lk(1, 24), lk(1, 3)), 5, 1, api.ErrPeriod) // not the one behind
	refuses(t, row(lk(1, 3), lk(1, 3), lk(1, 24)), 5, 1, api.ErrTwice)
}

// P22.1, P22.3: Entity goes through all entities, and beyond, of as many as there may be, and beyond.
func TestEntities(t *testing.T) {
	numbers := append(far(), 0, 1, 2, 3, 39, 40, 41, 42, 400)
	for _, n := range numbers {
		ones := slices.Clone(numbers)
		if n > least {
			ones = append(ones, n-1)
		}
		if n < most {
			ones = append(ones, n+1)
		}
		for _, entity := range ones {
			for _, period := range []int{0, 7, 23} {
				x := lk(entity, period)
				if entity >= 1 && entity <= n {
					accepts(t, row(x), n)
					addsTo(t, nil, x, n)
					continue
				}
				refuses(t, row(x), n, 0, api.ErrEntity)
				addsNone(t, nil, x, n, api.ErrEntity)
			}
			refuses(t, row(lk(entity, 24)), n, 0, wantNext(nil, lk(entity, 24), n))
		}
	}
}

// P22.1, P22.3: Period goes through all periods, and beyond.
func TestPeriods(t *testing.T) {
	for _, period := range periods() {
		x := lk(2, period)
		if period >= 0 && period <= 23 {
			accepts(t, row(lk(1, 23), x), 2)
			addsTo(t, row(lk(1, 23)), x, 2)
			continue
		}
		refuses(t, row(lk(1, 23), x), 2, 1, api.ErrPeriod)
		addsNone(t, row(lk(1, 23)), x, 2, api.ErrPeriod)
	}
}

// P22.1, P22.3: ErrTwice, if those ahead of it lock that entity in that period: in just that one, or in one behind it, wherever they stand; not if they lock it in one ahead of it, nor if they are another one's.
func TestTwice(t *testing.T) {
	for ahead := range 24 {
		for behind := range 24 {
			for _, between := range [][]api.Lock{nil, row(lk(3, 23)), row(lk(1, 23), lk(3, 5), lk(4, 5))} {
				l := append(row(lk(2, ahead)), between...)
				x := lk(2, behind)
				accepts(t, append(slices.Clone(l), lk(5, behind)), 5)
				if ahead < behind {
					accepts(t, append(slices.Clone(l), x), 5)
					addsTo(t, l, x, 5)
					continue
				}
				refuses(t, append(slices.Clone(l), x, lk(1, -1)), 5, len(l), api.ErrTwice)
				addsNone(t, l, x, 5, api.ErrTwice)
			}
		}
	}
	accepts(t, row(lk(2, 0), lk(2, 1), lk(2, 2), lk(2, 22), lk(2, 23)), 2)
	refuses(t, row(lk(2, 3), lk(2, 9), lk(1, 4), lk(2, 5)), 2, 3, api.ErrTwice) // the one right ahead locks it not, but an earlier one
	refuses(t, row(lk(2, 9), lk(2, 3), lk(2, 5)), 2, 1, api.ErrTwice)
	refuses(t, row(lk(1, 7), lk(2, 3), lk(1, 8), lk(2, 2)), 2, 3, api.ErrTwice)
	refuses(t, append(many(399), lk(40, 0)), 40, 399, api.ErrTwice)
	refuses(t, append(many(399), lk(1, 9)), 40, 399, api.ErrTwice)
	accepts(t, append(many(399), lk(1, 10)), 40)
}

// P22.2: Last, written out.
func TestLast(t *testing.T) {
	for _, x := range []struct {
		l            []api.Lock
		entity, last int
	}{
		{nil, 1, -1},
		{row(), 0, -1},
		{row(lk(2, 3)), 2, 3},
		{row(lk(2, 3)), 1, -1},
		{row(lk(2, 3)), 3, -1},
		{row(lk(2, 0)), 2, 0},
		{row(lk(2, 23)), 2, 23},
		{row(lk(2, 3), lk(1, 9), lk(2, 7)), 2, 7},
		{row(lk(2, 3), lk(1, 9), lk(2, 7)), 1, 9},
		{row(lk(2, 7), lk(2, 3)), 2, 7}, // the greatest one, wherever it stands
		{row(lk(2, 3), lk(2, 7), lk(2, 5)), 2, 7},
		{row(lk(2, 3), lk(2, 3)), 2, 3},
		{row(lk(2, -1)), 2, -1},
		{row(lk(2, -2)), 2, -1},
		{row(lk(2, least), lk(2, -5), lk(2, -1)), 2, -1},
		{row(lk(2, -5), lk(2, 0), lk(2, -1)), 2, 0},
		{row(lk(2, 24)), 2, 24},
		{row(lk(2, 24), lk(2, 3)), 2, 24},
		{row(lk(2, 5), lk(2, most), lk(2, 6)), 2, most},
		{row(lk(2, least)), 2, -1},
		{row(lk(0, 4)), 0, 4}, // also of numbers that are no entity
		{row(lk(-1, 4), lk(1, 5)), -1, 4},
		{row(lk(least, 4), lk(most, 5)), least, 4},
		{row(lk(least, 4), lk(most, 5)), most, 5},
		{row(lk(41, 4)), 41, 4},
		{row(lk(1<<32+2, 4)), 2, -1},
		{row(lk(2, 1<<32+2)), 2, 1<<32 + 2},
		{make([]api.Lock, 3), 0, 0},
		{make([]api.Lock, 3), 1, -1},
		{many(400), 1, 9},
		{many(400), 40, 9},
		{many(399), 40, 8},
		{many(960), 40, 23},
		{append(many(2000), lk(40, 77)), 40, 77},
	} {
		if last := Last(x.l, x.entity); last != x.last {
			t.Errorf("Last(%v, %d): %d, not %d", show(x.l), x.entity, last, x.last)
		}
		lasts(t, x.l, x.entity)
	}
}

// locked looks at what Locked tells, written out, of entities handed in one by one, and as a slice.
func locked(t *testing.T, l []api.Lock, period int, want bool, entities ...int) {
	t.Helper()
	is := Locked(l, period, entities...)
	switch len(entities) {
	case 1:
		is = Locked(l, period, entities[0]) && is
	case 2:
		is = Locked(l, period, entities[0], entities[1]) && is
	case 3:
		is = Locked(l, period, entities[0], entities[1], entities[2]) && is
	}
	if is != want {
		t.Errorf("Locked(%v, %d, %v): not %v", show(l), period, entities, want)
	}
	locks(t, l, period, entities...)
}

// P22.2: Locked of one entity: up to its Last, and not behind it.
func TestLockedOfOne(t *testing.T) {
	for _, last := range append(periods(), -1) {
		l := row(lk(1, most), lk(2, last), lk(3, least))
		for _, period := range append(periods(), last) {
			locked(t, l, period, period <= last || period < 0, 2)
		}
		locked(t, l, max(last, -1), true, 2)
		if last > 0 {
			locked(t, l, last-1, true, 2)
		}
		if last < most {
			locked(t, l, max(last, -1)+1, false, 2)
		}
	}
	for _, entity := range append(far(), 0, 1, 2, 40, 41) { // one without a lock is locked in no period, but in all below 0
		for _, l := range [][]api.Lock{nil, row(), row(lk(3, 23)), row(lk(entity, -1)), row(lk(entity, least))} {
			for _, period := range periods() {
				locked(t, l, period, period < 0, entity)
			}
		}
	}
}

// P22.2: Locked of none, of several, of one of them twice.
func TestLockedOfSeveral(t *testing.T) {
	l := row(lk(2, 3), lk(1, 0), lk(2, 7), lk(4, 5))
	for _, period := range periods() { // none of none, also in periods below 0
		locked(t, l, period, false)
		locked(t, nil, period, false)
		locked(t, row(lk(0, 23), lk(1, 23)), period, false)
		locked(t, row(lk(0, 23), lk(1, 23)), period, false, []int{}...)
	}
	for _, x := range []struct {
		period int
		want   bool
		of     []int
	}{
		{6, false, []int{1, 3, 4}},
		{6, true, []int{2, 1, 3, 4}},
		{6, true, []int{4, 3, 1, 2}},
		{6, true, []int{1, 4, 2, 3, 1}},
		{3, true, []int{2, 4}},
		{0, true, []int{1, 2, 4}},
		{0, true, []int{3, 3, 1}},
		{1, false, []int{3, 1, 3}},
		{7, true, []int{2, 2}},
		{8, false, []int{2, 2}},
		{1, false, []int{1, 1, 1}},
		{8, false, []int{1, 2, 3, 4}},
		{23, false, []int{1, 2, 3, 4}},
		{most, false, []int{1, 2, 3, 4}},
		{5, true, []int{3, 4}},
		{5, true, []int{4, 3}},
		{6, false, []int{4, 3}},
		{-1, true, []int{3}},
		{-1, true, []int{3, 5}},
		{least, true, []int{3, 5}},
		{0, false, []int{3, 5}},
		{0, false, []int{0, -1, most, least}},
		{-1, true, []int{0, -1, most, least}},
		{7, true, []int{most, least, 2, 0, -1}},
	} {
		locked(t, l, x.period, x.want, x.of...)
	}
	long := slices.Repeat([]int{9, 8, 7, 9, 3}, 100)
	locked(t, l, 5, false, long...)
	for _, at := range []int{0, 1, 250, 498, 499} {
		l := row(lk(2, 3), lk(5, 6), lk(2, 9))
		of := slices.Clone(long)
		of[at] = 2
		locked(t, l, 9, true, of...)
		locked(t, l, 10, false, of...)
	}
}

// P22.2: the entities may be handed in as a slice, which is left as it was, its order and spare room, too.
func TestLockedSlice(t *testing.T) {
	whole := []int{9, 2, 7, 2, 1, 8, 3, 3, 0}
	was := slices.Clone(whole)
	l := row(lk(3, 5), lk(1, 9))
	for count := range len(whole) + 1 {
		if is, want := Locked(l, 5, whole[:count]...), count >= 5; is != want {
			t.Errorf("Locked of %v: %v, not %v", whole[:count], is, want)
		}
		if is, want := Locked(l[:1], 5, whole[:count]...), count >= 7; is != want {
			t.Errorf("Locked by the first one of %v: %v, not %v", whole[:count], is, want)
		}
		if !slices.Equal(whole, was) {
			t.Fatalf("the entities %v have become %v", was, whole)
		}
	}
}

// all are the entities from 1 to n, but for some.
func all(n int, but ...int) []int {
	var l []int
	for entity := 1; entity <= n; entity++ {
		if !slices.Contains(but, entity) {
			l = append(l, entity)
		}
	}
	return l
}

func opensTo(t *testing.T, l []api.Lock, n, period int, want ...int) {
	t.Helper()
	if open := Open(l, n, period); !slices.Equal(open, want) {
		t.Errorf("Open(%v, %d, %d): %v, not %v", show(l), n, period, open, want)
	}
	opens(t, l, n, period)
}

// P22.2: Open, with none locked, some, and all, of so many entities, at most 40 of them.
func TestOpen(t *testing.T) {
	for _, n := range append(far(), 0, 1, 2, 3, 20, 38, 39, 40, 41, 42, 80, 400) {
		upTo := min(n, 40)
		for _, period := range periods() {
			if period < 0 { // each entity is locked there
				opensTo(t, nil, n, period)
				opensTo(t, many(60), n, period)
				continue
			}
			opensTo(t, nil, n, period, all(upTo)...)
			opensTo(t, many(960), n, min(period, 23))
		}
		some := row(lk(2, 5), lk(40, 5), lk(3, 4), lk(20, 6), lk(1, 0), lk(20, 5), lk(39, -1), lk(7, least))
		opensTo(t, some, n, 0, all(upTo, 1, 2, 3, 20, 40)...)
		opensTo(t, some, n, 4, all(upTo, 2, 3, 20, 40)...)
		opensTo(t, some, n, 5, all(upTo, 2, 20, 40)...)
		opensTo(t, some, n, 6, all(upTo, 20)...)
		opensTo(t, some, n, 7, all(upTo)...)
		opensTo(t, some, n, most, all(upTo)...)
		opensTo(t, some, n, least)
	}
}

// P22.2: Open of locks of numbers that are no entity, or in no period.
func TestOpenOdd(t *testing.T) {
	var odd []api.Lock
	for _, n := range append(far(), 0) {
		odd = append(odd, lk(n, 23))
	}
	opensTo(t, odd, 4, 0, 1, 2, 3, 4)
	opensTo(t, append(odd, lk(41, 23), lk(5, 23)), 4, 23, 1, 2, 3, 4)
	opensTo(t, odd, 0, 0)
	opensTo(t, odd, -1, 0)
	opensTo(t, row(lk(41, 5), lk(3, 5)), 41, 5, all(40, 3)...)
	opensTo(t, row(lk(1, 5), lk(2, 5)), 42, 5, all(40, 1, 2)...)
	opensTo(t, row(lk(2, most), lk(1, least), lk(3, 24)), 4, 24, 1, 4)
	opensTo(t, row(lk(2, most), lk(1, least), lk(3, 24)), 4, 25, 1, 3, 4)
	opensTo(t, row(lk(2, most), lk(1, least), lk(3, 24)), 4, most, 1, 3, 4)
	opensTo(t, row(lk(1, most), lk(2, most), lk(3, most)), 3, most)
}

// addsTo looks at whether Add puts a lock behind the others.
func addsTo(t *testing.T, l []api.Lock, x api.Lock, n int) {
	t.Helper()
	if out, e := Add(l, x, n); !slices.Equal(out, append(slices.Clone(l), x)) || e != api.OK {
		t.Errorf("Add(%v, %v, %d): %v, %v", show(l), x, n, show(out), e)
	}
	adds(t, l, x, n)
}

func addsNone(t *testing.T, l []api.Lock, x api.Lock, n int, want api.Errno) {
	t.Helper()
	if out, e := Add(l, x, n); len(out) != 0 || e != want {
		t.Errorf("Add(%v, %v, %d): %v, %v; not %v", show(l), x, n, show(out), e, want)
	}
	adds(t, l, x, n)
}

// P22.3: to how many locks one may be added: ErrFull ahead of all others.
func TestAddHowMany(t *testing.T) {
	for _, count := range []int{0, 1, 2, 40, 200, 398, 399} {
		addsTo(t, many(count), lk(5, 23), 40)
		addsTo(t, many(count), lk(40, 10), most)
		addsTo(t, make([]api.Lock, count), lk(1, 0), 1)
		for _, x := range faults() {
			if x.e != api.ErrTwice || count > 5 {
				addsNone(t, many(count), x.x, 40, x.e)
			}
		}
	}
	for _, count := range []int{400, 401, 402, 656, 800, 960, 1 << 16} {
		addsNone(t, many(count), lk(41, 23), 41, api.ErrFull)
		addsNone(t, many(count), lk(1, 0), 0, api.ErrFull)
		addsNone(t, make([]api.Lock, count), lk(1, 0), 1, api.ErrFull)
		for _, x := range faults() {
			addsNone(t, many(count), x.x, 40, api.ErrFull)
		}
	}
	addsTo(t, row(), lk(1, 0), 1)
}

// P22.3: each error alone and several at once.
func TestAddErrors(t *testing.T) {
	five := row(lk(4, 23), lk(5, 0), lk(6, 1))
	for _, x := range faults() {
		addsNone(t, five, x.x, 40, x.e)
		if x.e != api.ErrTwice {
			addsNone(t, nil, x.x, 40, x.e)
		}
	}
	addsNone(t, five, lk(5, 0), 4, api.ErrEntity)
	addsNone(t, five, lk(4, 24), 3, api.ErrEntity)
	addsNone(t, five, lk(4, 24), 4, api.ErrPeriod)
	addsNone(t, five, lk(4, 23), 4, api.ErrTwice)
	addsTo(t, five, lk(5, 1), 5)
	addsNone(t, five, lk(6, 1), 6, api.ErrTwice)
	addsTo(t, five, lk(6, 2), 6)
}

// P22.3: to locks that may not be: they are taken as they are, and lock what they lock.
func TestAddToOdd(t *testing.T) {
	odd := row(lk(2, 24), lk(0, 5), lk(-1, 23), lk(1, -1), lk(3, 7), lk(3, 7), lk(3, 2), lk(4, least), lk(9, 9), lk(5, most), api.Lock{})
	for _, x := range odd {
		addsTo(t, row(x), lk(6, 0), 6)
	}
	for _, x := range []struct {
		x api.Lock
		n int
		e api.Errno
	}{
		{lk(2, 0), 6, api.ErrTwice},
		{lk(2, 23), 6, api.ErrTwice}, // as it is locked up to 24
		{lk(2, 24), 6, api.ErrPeriod},
		{lk(5, 23), 6, api.ErrTwice},
		{lk(1, 0), 6, api.OK},
		{lk(4, 0), 6, api.OK},
		{lk(3, 2), 6, api.ErrTwice},
		{lk(3, 7), 6, api.ErrTwice},
		{lk(3, 8), 6, api.OK},
		{lk(6, 0), 6, api.OK},
		{lk(9, 9), 6, api.ErrEntity},
		{lk(9, 9), 9, api.ErrTwice},
		{lk(9, 10), 9, api.OK},
		{lk(0, 5), 6, api.ErrEntity},
		{lk(-1, 5), 6, api.ErrEntity},
		{lk(1, 0), 0, api.ErrEntity},
	} {
		if x.e == api.OK {
			addsTo(t, odd, x.x, x.n)
			continue
		}
		addsNone(t, odd, x.x, x.n, x.e)
	}
}

// P22.3: rows that are added to the same one, with much spare room, do not touch one another, nor it, nor its spare room.
func TestAddToTheSame(t *testing.T) {
	one, two := lk(3, 20), lk(2, 21)
	whole := slices.Repeat(row(lk(-7, -7)), 500)
	for count := range 400 {
		copy(whole, many(count))
		was := slices.Clone(whole)
		l := whole[:count]
		a, e := Add(l, one, 40)
		b, f := Add(l, two, 40)
		if e != api.OK || f != api.OK || !slices.Equal(a, append(many(count), one)) || !slices.Equal(b, append(many(count), two)) {
			t.Fatalf("Add of %v and of %v to %v: %v, %v; %v, %v", one, two, show(l), show(a), e, show(b), f)
		}
		spoil(a, api.Lock{})
		if !slices.Equal(b, append(many(count), two)) || !slices.Equal(whole, was) {
			t.Fatalf("Add of %v and of %v to %v, the first one written over: %v; and in that row %v", one, two, show(l), show(b), show(whole))
		}
		spoil(whole, lk(-7, -7))
		if !slices.Equal(b, append(many(count), two)) {
			t.Fatalf("Add of %v to a row of %d, that one written over: %v", two, count, show(b))
		}
	}
}

// P22.1 to P22.3: all rows of up to 3 locks of a few kinds, with all that may be added and asked.
func TestAllSmallRows(t *testing.T) {
	some := row(lk(1, 0), lk(1, 1), lk(2, 0), lk(2, 1), lk(2, 22), lk(2, 23), lk(3, 23), lk(1, 24), lk(1, -1), lk(0, 1), lk(3, least), lk(40, most))
	rows := [][]api.Lock{nil}
	for from := 0; from < len(rows); from++ {
		l := rows[from]
		for n := range 5 {
			checks(t, l, n)
			for _, period := range []int{-1, 0, 1, 2, 21, 22, 23, 24} {
				tellsAll(t, l, n, n, period)
			}
		}
		for _, x := range some {
			for n := 1; n <= 3; n++ {
				adds(t, l, x, n)
			}
			if len(l) < 3 {
				rows = append(rows, append(slices.Clone(l), x))
			}
		}
	}
	if len(rows) != 1+12+144+1728 {
		t.Fatal(len(rows))
	}
}

// drawnNumber is any number, small ones more often than others.
func drawnNumber(r *rand.Rand) int {
	switch r.Intn(3) {
	case 0:
		return far()[r.Intn(len(far()))]
	case 1:
		return r.Intn(44) - 2
	}
	return int(r.Uint64()) >> r.Intn(64)
}

// drawnLock is a lock of n entities, in one of so many periods; if odd, now and then one that may not be.
func drawnLock(r *rand.Rand, n, periods int, odd bool) api.Lock {
	x := lk(1+r.Intn(n), r.Intn(periods))
	if odd && r.Intn(4) == 0 {
		x.Entity = drawnNumber(r)
	}
	if odd && r.Intn(4) == 0 {
		x.Period = drawnNumber(r)
	}
	return x
}

// grown is a row that comes of Adds: those that are refused are left out.
func grown(r *rand.Rand, tries, n, periods int) []api.Lock {
	var l []api.Lock
	for range tries {
		if m, e := Add(l, drawnLock(r, n, periods, false), n); e == api.OK {
			l = m
		}
	}
	return l
}

// drawn draws so many rows, of locks that may be and of others, and hands each on. (The draw is the same each time.)
func drawn(count int, seed int64, to func(r *rand.Rand, l []api.Lock, n, periods int)) {
	r := rand.New(rand.NewSource(seed))
	for i := range count {
		n, periods := 1+r.Intn(1+r.Intn(40)), 1+r.Intn(24)
		if i%2 == 0 {
			to(r, grown(r, r.Intn(1+r.Intn(400)), n, periods), n, periods)
			continue
		}
		var l []api.Lock
		for range r.Intn(1 + r.Intn(60)) {
			l = append(l, drawnLock(r, n, periods, true))
		}
		to(r, l, n, periods)
	}
}

// P22.1 to P22.3: drawn calls.
func TestDrawn(t *testing.T) {
	drawn(4000, 22, func(r *rand.Rand, l []api.Lock, n, periods int) {
		checks(t, l, n)
		checks(t, l, r.Intn(n+1))
		checks(t, l, drawnNumber(r))
		for range 6 {
			x := drawnLock(r, n, periods, true)
			checks(t, append(slices.Clone(l), x), n)
			adds(t, l, x, n)
			adds(t, l, x, drawnNumber(r))
			adds(t, l, drawnLock(r, n, periods, false), n)
			tellsAll(t, l, x.Entity, n, x.Period)
			tellsAll(t, l, r.Intn(n+2), n, r.Intn(26)-1)
			tellsAll(t, l, drawnNumber(r), drawnNumber(r), drawnNumber(r))
			of := make([]int, r.Intn(6))
			for i := range of {
				of[i] = drawnLock(r, n+2, periods, true).Entity
			}
			locks(t, l, x.Period, of...)
			locks(t, l, r.Intn(periods+1), of...)
		}
	})
}

// P22.1 to P22.3: of locks that may be Add tells locks that may be, the same but for one behind; of any it tells what Check tells of that one there.
func TestAddMayBe(t *testing.T) {
	drawn(1500, 23, func(r *rand.Rand, l []api.Lock, n, periods int) {
		at, e := Check(l, n)
		mayBe := e == api.OK
		if mayBe && at != len(l) {
			t.Fatalf("Check(%v, %d): %d, %v", show(l), n, at, e)
		}
		for range 5 {
			x := drawnLock(r, n, periods, true)
			out, e := Add(l, x, n)
			if mayBe && len(l) < 400 {
				if at, want := Check(append(slices.Clone(l), x), n); e != want || want != api.OK && at != len(l) {
					t.Fatalf("Add(%v, %v, %d): %v; Check of that row: %d, %v", show(l), x, n, e, at, want)
				}
			}
			if e != api.OK {
				continue
			}
			if at, e := Check(out, n); mayBe && (at != len(l)+1 || e != api.OK) {
				t.Fatalf("Add(%v, %v, %d): %v, of which Check tells %d, %v", show(l), x, n, show(out), at, e)
			}
			if !slices.Equal(out[:len(l)], l) || out[len(l)] != x || len(out) != len(l)+1 {
				t.Fatalf("Add(%v, %v, %d): %v", show(l), x, n, show(out))
			}
		}
	})
}

// P22.4: with a lock more what was Locked stays so; that entity is Locked up to its Period; nothing else is that was not.
func TestStays(t *testing.T) {
	drawn(1000, 24, func(r *rand.Rand, l []api.Lock, n, periods int) {
		x := drawnLock(r, n, periods, true)
		more := append(slices.Clone(l), x) // what Add tells, if it may be added; the promise is of any locks
		if out, e := Add(l, x, n); e == api.OK {
			more = out
		}
		ones := append(all(n), x.Entity, 0, n+1, -1)
		for _, l := range l {
			ones = append(ones, l.Entity)
		}
		for _, entity := range ones {
			for _, period := range []int{-1, 0, 1, 5, 22, 23, 24, x.Period, max(x.Period, least+1) - 1, min(x.Period, most-1) + 1, r.Intn(periods)} {
				want := Locked(l, period, entity) || entity == x.Entity && period <= x.Period
				if is := Locked(more, period, entity); is != want {
					t.Fatalf("%v, and %v: Locked of %d in %d: %v, not %v", show(l), x, entity, period, is, want)
				}
			}
		}
		if want := max(Last(l, x.Entity), x.Period); Last(more, x.Entity) != want {
			t.Fatalf("%v, and %v: Last of %d: %d, not %d", show(l), x, x.Entity, Last(more, x.Entity), want)
		}
	})
}

// P22.5: an entity from 1 to n is Open just if it is not Locked; a lock of it in that period may be added just if it is Open.
func TestOpens(t *testing.T) {
	drawn(400, 25, func(r *rand.Rand, l []api.Lock, n, _ int) {
		for _, period := range periods() {
			open := Open(l, n, period)
			if !slices.IsSorted(open) || len(slices.Compact(slices.Clone(open))) != len(open) {
				t.Fatalf("Open(%v, %d, %d): %v: not rising", show(l), n, period, open)
			}
			for entity := range n + 2 {
				isOpen := slices.Contains(open, entity)
				if is := entity >= 1 && entity <= n && !Locked(l, period, entity); is != isOpen {
					t.Fatalf("Open(%v, %d, %d): %v; of %d Locked tells %v", show(l), n, period, open, entity, !is)
				}
				if isOne := period >= 0 && period < 24; !isOne || len(l) >= 400 {
					continue
				}
				if _, e := Add(l, lk(entity, period), n); (e == api.OK) != isOpen {
					t.Fatalf("Open(%v, %d, %d): %v; of a lock of %d Add tells %v", show(l), n, period, open, entity, e)
				}
			}
		}
	})
}

// P22.2, P22.3: each answer is new memory: what is written over it changes neither the row that came in nor any other answer, be it an earlier or a later one.
func TestNewMemory(t *testing.T) {
	l := row(lk(2, 3), lk(1, 0), lk(2, 7))
	was := slices.Clone(l)
	added, open := append(slices.Clone(was), lk(3, 1)), []int{1, 3, 4, 5}
	one, _ := Add(l, lk(3, 1), 4)
	two, _ := Add(l, lk(3, 1), 4)
	a, b := Open(l, 5, 1), Open(l, 5, 1)
	spoil(one, lk(-9, -9))
	spoil(a, -9)
	if !slices.Equal(two, added) || !slices.Equal(b, open) {
		t.Fatalf("Add and Open, the first answers written over: %v, %v; not %v, %v", two, b, added, open)
	}
	three, _ := Add(l, lk(3, 1), 4)
	if c := Open(l, 5, 1); !slices.Equal(three, added) || !slices.Equal(c, open) {
		t.Fatalf("Add and Open anew, the first answers written over: %v, %v; not %v, %v", three, c, added, open)
	}
	if !slices.Equal(l, was) {
		t.Fatalf("the row that came in is %v", l)
	}
}

// P22.1 to P22.3: nothing is kept: what is told of one row hangs on no call ahead of it, also if the row, or the list of entities, has become another one.
func TestNothingKept(t *testing.T) {
	l, of := row(lk(1, 3), lk(2, 4)), []int{1, 2}
	for n := range 23 {
		l[0].Period, l[1].Entity, of[1] = n, n+2, n+2
		tellsAll(t, l, 1, 24, n)
		locked(t, l, max(n, 4), true, of...)
		locked(t, l, max(n, 4)+1, false, of...)
		opensTo(t, l, n+2, 23, all(n+2)...)
		checks(t, l, 24)
		checks(t, l, n)
		addsNone(t, l, lk(1, n), 24, api.ErrTwice)
		addsTo(t, l, lk(1, n+1), 24)
	}
}

// P22.2: rows of many locks, and of many entities, end soon.
func TestLongRows(t *testing.T) {
	long, of := many(1<<16), make([]int, 1<<16)
	for i := range long {
		long[i] = lk(2*i+41, i%24)
		of[i] = 2*i + 42
	}
	locked(t, long, 0, false)
	if Locked(long, 0, of...) || !Locked(long, -1, of...) {
		t.Fatal("Locked of many, of which none has a lock")
	}
	of[1<<15] = long[1<<16-1].Entity
	if last := long[1<<16-1].Period; !Locked(long, last, of...) || Locked(long, last+1, of...) {
		t.Fatal("Locked of many, of which one has a lock")
	}
	opensTo(t, long, most, 0, all(40)...)
	addsNone(t, long, lk(1, 0), 1, api.ErrFull)
	if last := Last(long, long[1<<16-1].Entity); last != long[1<<16-1].Period {
		t.Fatalf("Last of many: %d", last)
	}
}

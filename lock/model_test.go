package lock

import (
	"math"
	"slices"
	"testing"

	"gavelkind/api"
)

const most, least = math.MaxInt, math.MinInt

// far are numbers that are neither entities nor periods; some of them look like one, if bits are cut off.
func far() []int {
	return []int{-1, -2, -3, -23, -24, -40, 256, 257, 258, 1 << 16, 1<<16 + 1, 1<<31 + 1, 1 << 32, 1<<32 + 1, 1<<32 + 2, 1<<32 + 23, -1<<32 + 1, least, least + 1, least + 2, most - 1, most}
}

// periods are all periods, and numbers that are none.
func periods() []int {
	l := append(far(), 24, 25, 26, 39, 40, 41)
	for period := range 24 {
		l = append(l, period)
	}
	return l
}

// lk is a lock with both its numbers.
func lk(entity, period int) api.Lock { return api.Lock{Entity: entity, Period: period} }

func row(x ...api.Lock) []api.Lock { return x }

// many are so many locks that may be, of as many of 40 entities as it takes, each of which is locked in one period behind the other.
func many(count int) []api.Lock {
	l := make([]api.Lock, count)
	for i := range l {
		l[i] = lk(1+i%40, i/40)
	}
	return l
}

// with is a row that has another lock at some places.
func with(l []api.Lock, x api.Lock, places ...int) []api.Lock {
	l = slices.Clone(l)
	for _, at := range places {
		l[at] = x
	}
	return l
}

// show tells a row for a fault's text: of a long one its ends.
func show(l []api.Lock) any {
	if len(l) <= 50 {
		return l
	}
	return []any{len(l), l[:10], l[len(l)-10:]}
}

// spoil writes over all of an answer, its spare room, too: that is its owner's to do.
func spoil[T any](l []T, odd T) {
	l = l[:cap(l)]
	for i := range l {
		l[i] = odd
	}
}

// lent is a row that is handed in, and how all of it was, its spare room, too.
type lent[T comparable] struct {
	whole, was []T
	count      int
}

// lend puts a row ahead of what stands in its spare room, where it would count, if it were looked at.
func lend[T comparable](l []T, spare ...T) lent[T] {
	whole := slices.Concat(l, spare)
	return lent[T]{whole, slices.Clone(whole), len(l)}
}

func lendLocks(l []api.Lock) lent[api.Lock] {
	return lend(l, lk(1, 23), lk(2, most), lk(3, 22), lk(-7, 1), api.Lock{})
}

func (l lent[T]) row() []T { return l.whole[:l.count] }

// look looks at whether what was lent is as it was.
func (l lent[T]) look(t *testing.T, call string) {
	t.Helper()
	if !slices.Equal(l.whole, l.was) {
		t.Fatalf("%s: of the row %v, and its spare room, it made %v", call, l.was, l.whole)
	}
}

// What has to be told, by the chapter's words.

// wantLast gathers the Periods of an entity's locks that are not below 0, and takes the one that none of them is above.
func wantLast(l []api.Lock, entity int) int {
	var all []int
	for _, x := range l {
		if x.Entity == entity && x.Period >= 0 {
			all = append(all, x.Period)
		}
	}
	for _, one := range all {
		if !slices.ContainsFunc(all, func(other int) bool { return other > one }) {
			return one
		}
	}
	return -1
}

func wantLocked(l []api.Lock, period int, entities []int) bool {
	for _, entity := range entities {
		if period <= wantLast(l, entity) {
			return true
		}
	}
	return false
}

func wantOpen(l []api.Lock, n, period int) []int {
	var open []int
	for entity := 1; entity <= 40; entity++ {
		if entity <= n && period > wantLast(l, entity) {
			open = append(open, entity)
		}
	}
	return open
}

// wantNext tells the error of the lock x behind the locks ahead: each of these locks its entity in its Period, and in all ahead of it.
func wantNext(ahead []api.Lock, x api.Lock, n int) api.Errno {
	if !(1 <= x.Entity && x.Entity <= n) {
		return api.ErrEntity
	}
	if !(0 <= x.Period && x.Period <= 23) {
		return api.ErrPeriod
	}
	for _, one := range ahead {
		if one.Entity == x.Entity && (one.Period == x.Period || one.Period > x.Period) {
			return api.ErrTwice
		}
	}
	return api.OK
}

func wantCheck(l []api.Lock, n int) (int, api.Errno) {
	if len(l) > 400 {
		return 0, api.ErrFull
	}
	for at := range l {
		if e := wantNext(l[:at], l[at], n); e != api.OK {
			return at, e
		}
	}
	return len(l), api.OK
}

func wantAdd(l []api.Lock, x api.Lock, n int) ([]api.Lock, api.Errno) {
	if len(l) >= 400 {
		return nil, api.ErrFull
	}
	if e := wantNext(l, x, n); e != api.OK {
		return nil, e
	}
	return append(slices.Clone(l), x), api.OK
}

// Calls, of which what is told is held against what has to be, and what was handed in against what it was.

func checks(t *testing.T, l []api.Lock, n int) {
	t.Helper()
	in := lendLocks(l)
	at, e := Check(in.row(), n)
	if wantAt, want := wantCheck(l, n); at != wantAt || e != want {
		t.Fatalf("Check(%v, %d): %d, %v; not %d, %v", show(l), n, at, e, wantAt, want)
	}
	in.look(t, "Check")
}

func lasts(t *testing.T, l []api.Lock, entity int) {
	t.Helper()
	in := lendLocks(l)
	last := Last(in.row(), entity)
	if want := wantLast(l, entity); last != want {
		t.Fatalf("Last(%v, %d): %d, not %d", show(l), entity, last, want)
	}
	in.look(t, "Last")
}

func locks(t *testing.T, l []api.Lock, period int, entities ...int) {
	t.Helper()
	in, of := lendLocks(l), lend(entities, 3, 1, 2)
	locked := Locked(in.row(), period, of.row()...)
	if want := wantLocked(l, period, entities); locked != want {
		t.Fatalf("Locked(%v, %d, %v): %v, not %v", show(l), period, entities, locked, want)
	}
	in.look(t, "Locked")
	of.look(t, "Locked")
}

func opens(t *testing.T, l []api.Lock, n, period int) {
	t.Helper()
	in := lendLocks(l)
	open := Open(in.row(), n, period)
	if want := wantOpen(l, n, period); !slices.Equal(open, want) {
		t.Fatalf("Open(%v, %d, %d): %v, not %v", show(l), n, period, open, want)
	}
	in.look(t, "Open")
	spoil(open, -99)
	in.look(t, "Open, its answer written over")
}

func adds(t *testing.T, l []api.Lock, x api.Lock, n int) {
	t.Helper()
	in := lendLocks(l)
	out, e := Add(in.row(), x, n)
	if wantOut, want := wantAdd(l, x, n); !slices.Equal(out, wantOut) || e != want {
		t.Fatalf("Add(%v, %v, %d): %v, %v; not %v, %v", show(l), x, n, show(out), e, show(wantOut), want)
	}
	in.look(t, "Add")
	spoil(out, lk(-99, -99))
	in.look(t, "Add, its answer written over")
}

// tellsAll asks all that may be asked of an entity and of a period.
func tellsAll(t *testing.T, l []api.Lock, entity, n, period int) {
	t.Helper()
	lasts(t, l, entity)
	locks(t, l, period, entity)
	locks(t, l, period, entity, n)
	locks(t, l, period, n, entity, 1, entity)
	opens(t, l, n, period)
}

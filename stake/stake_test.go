package stake

import (
	"math"
	"math/rand"
	"slices"
	"testing"

	"gavelkind/api"
)

const most, least = math.MaxInt, math.MinInt

// far are numbers that are neither entities, nor periods, nor shares; some of them look like one, if bits are cut off.
func far() []int {
	return []int{-1, -2, -40, 10001, 1 << 16, 1<<16 + 1, 1<<31 + 1, 1 << 32, 1<<32 + 1, 1<<32 + 23, -1<<32 + 1, least, least + 1, least + 23, most - 1, most}
}

// own is a stake with a share that may be, and that few others have.
func own(entity, parent, from int) api.Stake {
	if parent == 0 {
		return st(entity, 0, 10000, from)
	}
	return st(entity, parent, 4000+parent%200*20+from%24, from)
}

// st is a stake with all its numbers.
func st(entity, parent, share, from int) api.Stake {
	return api.Stake{Entity: entity, Parent: parent, Share: share, From: from}
}

func row(s ...api.Stake) []api.Stake { return s }

// many is so many stakes that may be, of three entities or more.
func many(count int) []api.Stake {
	l := make([]api.Stake, count)
	for i := range l {
		l[i] = own(2+i%2, 1, i%24)
	}
	return l
}

// with is a row that has another stake at some places.
func with(l []api.Stake, s api.Stake, places ...int) []api.Stake {
	l = slices.Clone(l)
	for _, at := range places {
		l[at] = s
	}
	return l
}

// chain is a row in which each entity of so many holds the next one, from that period on.
func chain(count, from int) []api.Stake {
	var l []api.Stake
	for entity := 2; entity <= count; entity++ {
		l = append(l, own(entity, entity-1, from))
	}
	return l
}

// show tells a row for a fault's text: of a long one its ends.
func show(l []api.Stake) any {
	if len(l) <= 30 {
		return l
	}
	return []any{len(l), l[:10], l[len(l)-10:]}
}

// lent is a row that is handed in, and how all of it was, its spare room, too.
type lent struct {
	whole, was []api.Stake
	count      int
}

func lend(l []api.Stake) lent {
	whole := slices.Concat(l, row(st(-7, 3, 1, 2), own(1, 2, 0), api.Stake{}))
	return lent{whole, slices.Clone(whole), len(l)}
}

func (l lent) row() []api.Stake { return l.whole[:l.count] }

// look looks at whether what was lent is as it was.
func (l lent) look(t *testing.T, call string) {
	t.Helper()
	if !slices.Equal(l.whole, l.was) {
		t.Fatalf("%s: of the row %v, and its spare room, it made %v", call, show(l.was), show(l.whole))
	}
}

// spoil writes over all of an answer, its spare room, too: that is its owner's to do.
func spoil[T any](l []T, odd T) {
	l = l[:cap(l)]
	for i := range l {
		l[i] = odd
	}
}

// What has to be told, by the chapter's words.

// wantAt gathers the stakes that have begun, then those with the greatest From, and takes the last one of these.
func wantAt(l []api.Stake, entity, period int) (parent, share int) {
	var begun, latest []api.Stake
	for _, s := range l {
		if s.Entity == entity && s.From <= period {
			begun = append(begun, s)
		}
	}
	for _, s := range begun {
		if !slices.ContainsFunc(begun, func(other api.Stake) bool { return other.From > s.From }) {
			latest = append(latest, s)
		}
	}
	if len(latest) == 0 {
		return 0, 10000
	}
	return latest[len(latest)-1].Parent, latest[len(latest)-1].Share
}

func wantFroms(l []api.Stake, entity int) []int {
	var froms []int
	for _, s := range l {
		if s.Entity == entity && !slices.Contains(froms, s.From) {
			froms = append(froms, s.From)
		}
	}
	for i := range froms { // the least of those that are left comes next
		for j := i + 1; j < len(froms); j++ {
			if froms[j] < froms[i] {
				froms[i], froms[j] = froms[j], froms[i]
			}
		}
	}
	return froms
}

// above gathers all above an entity in a period: whoever holds it, or one that was gathered, till there are no more.
func above(l []api.Stake, entity, period int) []int {
	var all []int
	for next := []int{entity}; len(next) > 0; next = next[1:] {
		parent, _ := wantAt(l, next[0], period)
		if parent != 0 && !slices.Contains(all, parent) {
			all, next = append(all, parent), append(next, parent)
		}
	}
	return all
}

// wantNext tells the error of the stake s behind the stakes ahead.
func wantNext(ahead []api.Stake, s api.Stake, n int) api.Errno {
	if !(1 <= s.Entity && s.Entity <= n) || !(0 <= s.Parent && s.Parent <= n) {
		return api.ErrEntity
	}
	if !(0 <= s.Share && s.Share <= 10000) || (s.Parent == 0 && s.Share != 10000) {
		return api.ErrShare
	}
	if !(0 <= s.From && s.From <= 23) {
		return api.ErrPeriod
	}
	l := slices.Concat(ahead, row(s))
	for period := 0; period <= 23; period++ {
		if slices.Contains(above(l, s.Entity, period), s.Entity) {
			return api.ErrCircle
		}
	}
	return api.OK
}

func wantCheck(l []api.Stake, n int) (int, api.Errno) {
	if len(l) > 400 {
		return 0, api.ErrFull
	}
	for at := range l {
		if e := wantNext(l[:at], l[at], n); e != api.OK {
			return at, e
		}
	}
	return len(l), api.OK
}

func wantAdd(l []api.Stake, s api.Stake, n int) ([]api.Stake, api.Errno) {
	if len(l) >= 400 {
		return nil, api.ErrFull
	}
	if e := wantNext(l, s, n); e != api.OK {
		return nil, e
	}
	return append(slices.Clone(l), s), api.OK
}

// wantSpans cuts the periods wherever two next to one another differ.
func wantSpans(l []api.Stake, entity int) []Span {
	type how struct{ parent, share int }
	var in [24]how
	for period := range in {
		in[period].parent, in[period].share = wantAt(l, entity, period)
	}
	var spans []Span
	for from := 0; from < 24; {
		to := from
		for to+1 < 24 && in[to+1] == in[from] {
			to++
		}
		spans = append(spans, Span{from, to, in[from].parent, in[from].share})
		from = to + 1
	}
	return spans
}

// Calls, of which what is told is held against what has to be, and what was handed in against what it was.

func checks(t *testing.T, l []api.Stake, n int) {
	t.Helper()
	in := lend(l)
	at, e := Check(in.row(), n)
	if wantAt, want := wantCheck(l, n); at != wantAt || e != want {
		t.Fatalf("Check(%v, %d): %d, %v; not %d, %v", show(l), n, at, e, wantAt, want)
	}
	in.look(t, "Check")
}

func tellsAt(t *testing.T, l []api.Stake, entity, period int) {
	t.Helper()
	in := lend(l)
	parent, share := At(in.row(), entity, period)
	if wantParent, wantShare := wantAt(l, entity, period); parent != wantParent || share != wantShare {
		t.Fatalf("At(%v, %d, %d): %d, %d; not %d, %d", show(l), entity, period, parent, share, wantParent, wantShare)
	}
	in.look(t, "At")
}

func tellsFroms(t *testing.T, l []api.Stake, entity int) {
	t.Helper()
	in := lend(l)
	froms := Froms(in.row(), entity)
	if want := wantFroms(l, entity); !slices.Equal(froms, want) {
		t.Fatalf("Froms(%v, %d): %v, not %v", show(l), entity, froms, want)
	}
	in.look(t, "Froms")
	spoil(froms, -99)
	in.look(t, "Froms, its answer written over")
}

func adds(t *testing.T, l []api.Stake, s api.Stake, n int) {
	t.Helper()
	in := lend(l)
	out, e := Add(in.row(), s, n)
	if wantOut, want := wantAdd(l, s, n); !slices.Equal(out, wantOut) || e != want {
		t.Fatalf("Add(%v, %v, %d): %v, %v; not %v, %v", show(l), s, n, show(out), e, show(wantOut), want)
	}
	in.look(t, "Add")
	spoil(out, st(-99, -99, -99, -99))
	in.look(t, "Add, its answer written over")
}

func tellsSpans(t *testing.T, l []api.Stake, entity int) {
	t.Helper()
	in := lend(l)
	spans := Spans(in.row(), entity)
	if want := wantSpans(l, entity); !slices.Equal(spans, want) {
		t.Fatalf("Spans(%v, %d): %v, not %v", show(l), entity, spans, want)
	}
	in.look(t, "Spans")
	spoil(spans, Span{-99, -99, -99, -99})
	in.look(t, "Spans, its answer written over")
}

// tellsAll asks all that may be asked of an entity, in periods in the range and beside it.
func tellsAll(t *testing.T, l []api.Stake, entity int) {
	t.Helper()
	for period := -2; period <= 26; period++ {
		tellsAt(t, l, entity, period)
	}
	for _, period := range far() {
		tellsAt(t, l, entity, period)
	}
	tellsFroms(t, l, entity)
	tellsSpans(t, l, entity)
}

// checked is a call of Check, and what has to be told, written out.
type checked struct {
	l  []api.Stake
	n  int
	at int
	e  api.Errno
}

func (x checked) look(t *testing.T) {
	t.Helper()
	if at, e := Check(x.l, x.n); at != x.at || e != x.e {
		t.Errorf("Check(%v, %d): %d, %v; not %d, %v", show(x.l), x.n, at, e, x.at, x.e)
	}
	checks(t, x.l, x.n)
}

// P18.1: how many stakes there may be, and the first one that may not be.
func TestCheckRows(t *testing.T) {
	odd := api.Stake{}
	for _, x := range []checked{
		{nil, 3, 0, api.OK},
		{[]api.Stake{}, 3, 0, api.OK},
		{nil, 0, 0, api.OK},
		{nil, least, 0, api.OK},
		{nil, most, 0, api.OK},
		{many(1), 3, 1, api.OK},
		{many(2), 3, 2, api.OK},
		{many(399), 3, 399, api.OK},
		{many(400), 3, 400, api.OK},
		{many(401), 3, 0, api.ErrFull},
		{many(402), 3, 0, api.ErrFull},
		{many(1000), 3, 0, api.ErrFull},
		{many(1 << 16), 3, 0, api.ErrFull},
		{with(many(401), odd, 0), 3, 0, api.ErrFull},
		{with(many(401), odd, 7, 400), 3, 0, api.ErrFull},
		{with(many(401), own(1, 1, 0), 5), 3, 0, api.ErrFull},
		{make([]api.Stake, 401), 3, 0, api.ErrFull},
		{make([]api.Stake, 400), 3, 0, api.ErrEntity},
		{with(many(400), odd, 0), 3, 0, api.ErrEntity},
		{with(many(400), odd, 399), 3, 399, api.ErrEntity},
		{with(many(400), odd, 17, 18, 399), 3, 17, api.ErrEntity},
		{with(many(400), st(2, 1, 10001, 0), 399), 3, 399, api.ErrShare},
		{with(many(400), own(2, 1, 24), 250), 3, 250, api.ErrPeriod},
		{with(many(400), own(1, 2, 0), 3), 3, 3, api.ErrCircle},
		{with(many(400), own(1, 3, 23), 399), 3, 399, api.ErrCircle},
		{with(with(many(9), odd, 4), own(2, 1, 24), 3), 3, 3, api.ErrPeriod},
		{with(with(many(9), own(2, 1, 24), 4), odd, 3), 3, 3, api.ErrEntity},
		{with(with(many(9), own(1, 2, 3), 6), st(2, 1, -1, 0), 7), 3, 6, api.ErrCircle},
		{with(with(many(9), own(1, 2, 3), 7), st(2, 1, -1, 0), 6), 3, 6, api.ErrShare},
	} {
		x.look(t)
	}
}

// P18.1: what is wrong with one stake, also where several things are: the one that the chapter names first.
func TestCheckFaults(t *testing.T) {
	for _, x := range []struct {
		s api.Stake
		n int
		e api.Errno
	}{
		{own(1, 2, 0), 2, api.OK},
		{own(2, 1, 0), 2, api.OK},
		{own(2, 0, 0), 2, api.OK},
		{own(1, 0, 0), 1, api.OK},
		{own(1, 0, 0), 0, api.ErrEntity},
		{own(0, 0, 0), 0, api.ErrEntity},
		{own(1, 0, 0), -1, api.ErrEntity},
		{own(-1, 0, 0), -1, api.ErrEntity},
		{own(1, 0, 0), least, api.ErrEntity},
		{own(least, 0, 0), least, api.ErrEntity},
		{own(0, 1, 0), 2, api.ErrEntity},
		{own(-1, 1, 0), 2, api.ErrEntity},
		{own(3, 1, 0), 2, api.ErrEntity},
		{own(least, 1, 0), 2, api.ErrEntity},
		{own(most, 1, 0), 2, api.ErrEntity},
		{own(1<<32+1, 2, 0), 2, api.ErrEntity},
		{st(1, -1, 5, 0), 2, api.ErrEntity},
		{st(1, 3, 5, 0), 2, api.ErrEntity},
		{st(1, least, 5, 0), 2, api.ErrEntity},
		{st(1, most, 5, 0), 2, api.ErrEntity},
		{st(1, 1<<32+2, 5, 0), 2, api.ErrEntity},
		{st(41, 40, 5, 0), 41, api.OK},
		{st(40, 41, 5, 0), 40, api.ErrEntity},
		{st(300, 299, 5, 0), 300, api.OK},
		{st(most, most-1, 5, 0), most, api.OK},
		{st(most, 0, 10000, 23), most, api.OK},
		{st(most, most-1, 5, 0), most - 1, api.ErrEntity},
		{st(most, most, 5, 0), most, api.ErrCircle},
		{st(1, 2, 0, 0), 2, api.OK},
		{st(1, 2, 1, 0), 2, api.OK},
		{st(1, 2, 10000, 0), 2, api.OK},
		{st(1, 2, 9999, 0), 2, api.OK},
		{st(1, 2, -1, 0), 2, api.ErrShare},
		{st(1, 2, 10001, 0), 2, api.ErrShare},
		{st(1, 2, least, 0), 2, api.ErrShare},
		{st(1, 2, most, 0), 2, api.ErrShare},
		{st(1, 2, 1<<32+1, 0), 2, api.ErrShare},
		{st(1, 0, 9999, 0), 2, api.ErrShare},
		{st(1, 0, 0, 0), 2, api.ErrShare},
		{st(1, 0, -1, 0), 2, api.ErrShare},
		{st(1, 0, 10001, 0), 2, api.ErrShare},
		{st(1, 2, 5, 23), 2, api.OK},
		{st(1, 2, 5, 1), 2, api.OK},
		{st(1, 2, 5, 24), 2, api.ErrPeriod},
		{st(1, 2, 5, 25), 2, api.ErrPeriod},
		{st(1, 2, 5, -1), 2, api.ErrPeriod},
		{st(1, 2, 5, least), 2, api.ErrPeriod},
		{st(1, 2, 5, most), 2, api.ErrPeriod},
		{st(1, 2, 5, 1<<32), 2, api.ErrPeriod},
		{st(1, 1, 5, 0), 1, api.ErrCircle},
		{st(1, 1, 5, 23), 1, api.ErrCircle},
		{st(1, 1, 0, 7), 1, api.ErrCircle},
		{st(3, 3, -1, -1), 2, api.ErrEntity},
		{st(0, 0, -1, 24), 2, api.ErrEntity},
		{st(1, 3, 10001, 0), 2, api.ErrEntity},
		{st(1, -1, 5, 24), 2, api.ErrEntity},
		{st(1, 1, 10001, -1), 2, api.ErrShare},
		{st(1, 0, 9999, 24), 2, api.ErrShare},
		{st(1, 1, -1, 0), 2, api.ErrShare},
		{st(1, 1, 5, -1), 2, api.ErrPeriod},
		{st(1, 1, 5, 24), 2, api.ErrPeriod},
	} {
		whole := 0
		if x.e == api.OK {
			whole = 1
		}
		checked{row(x.s), x.n, whole, x.e}.look(t)
		adds(t, nil, x.s, x.n)
		if x.n >= 2 && x.e != api.OK { // a fault is told as well behind others
			checked{row(own(2, 0, 0), own(1, 2, 1), x.s, own(9, 9, 9)), x.n, 2, x.e}.look(t)
			adds(t, row(own(2, 0, 0), own(1, 2, 1)), x.s, x.n)
		}
	}
}

// P18.1: circles: at the stake that closes them, in whatever periods they stand.
func TestCheckCircles(t *testing.T) {
	ring := func(count, from int) []api.Stake { return append(chain(count, 0), own(1, count, from)) }
	for _, x := range []checked{
		{row(own(2, 1, 0), own(1, 2, 0)), 2, 1, api.ErrCircle},
		{row(own(1, 2, 0), own(2, 1, 0)), 2, 1, api.ErrCircle},
		{row(own(1, 2, 0), own(2, 1, 7)), 2, 1, api.ErrCircle},
		{row(own(1, 2, 7), own(2, 1, 0)), 2, 1, api.ErrCircle},
		{row(own(1, 2, 23), own(2, 1, 23)), 2, 1, api.ErrCircle},
		{row(st(1, 2, 0, 3), st(2, 1, 0, 3)), 2, 1, api.ErrCircle},
		{row(own(2, 1, 0), own(3, 2, 0), own(1, 3, 0)), 3, 2, api.ErrCircle},
		{row(own(3, 2, 0), own(1, 3, 9), own(2, 1, 0)), 3, 2, api.ErrCircle},
		{row(own(3, 2, 0), own(2, 1, 9), own(1, 3, 23)), 3, 2, api.ErrCircle},
		{row(own(2, 1, 0), own(1, 1, 0)), 2, 1, api.ErrCircle},
		{ring(4, 0), 4, 3, api.ErrCircle},
		{ring(40, 0), 40, 39, api.ErrCircle},
		{ring(40, 23), 40, 39, api.ErrCircle},
		{ring(41, 23), 41, 40, api.ErrCircle},
		{ring(400, 0), 400, 399, api.ErrCircle},
		{chain(40, 0), 40, 39, api.OK},
		{chain(401, 23), 401, 400, api.OK},
		// in the last period alone, and up to the next From only
		{row(own(2, 1, 0), own(1, 2, 23)), 2, 1, api.ErrCircle},
		{row(own(2, 1, 23), own(2, 0, 0), own(1, 2, 0)), 2, 2, api.ErrCircle},
		{row(own(2, 1, 0), own(2, 0, 1), own(1, 2, 0)), 2, 2, api.ErrCircle},
		{row(own(2, 1, 5), own(2, 0, 6), own(1, 2, 0), own(1, 0, 7)), 2, 2, api.ErrCircle},
		{row(own(2, 1, 5), own(2, 3, 6), own(1, 0, 6), own(1, 2, 0)), 3, 3, api.ErrCircle},
		{row(own(1, 0, 6), own(2, 0, 3), own(1, 2, 3), own(2, 1, 2)), 3, 4, api.OK},
		{row(own(1, 0, 6), own(2, 0, 4), own(1, 2, 3), own(2, 1, 2)), 3, 3, api.ErrCircle},
		// none, as each way stands in other periods
		{row(own(2, 1, 0), own(2, 0, 5), own(1, 2, 5)), 2, 3, api.OK},
		{row(own(2, 1, 0), own(2, 0, 5), own(1, 2, 4)), 2, 2, api.ErrCircle},
		{row(own(2, 1, 5), own(1, 2, 0)), 2, 1, api.ErrCircle},
		{row(own(1, 0, 5), own(1, 2, 0), own(2, 1, 5)), 2, 3, api.OK},
		{row(own(1, 0, 5), own(1, 2, 0), own(2, 1, 4)), 2, 2, api.ErrCircle},
		// taken apart by a later one with the same From, not by one with an earlier From
		{row(own(2, 1, 3), own(2, 0, 3), own(1, 2, 0)), 2, 3, api.OK},
		{row(own(2, 1, 3), own(2, 3, 3), own(1, 2, 0)), 3, 3, api.OK},
		{row(own(2, 0, 3), own(2, 1, 3), own(1, 2, 0)), 2, 2, api.ErrCircle},
		{row(own(2, 1, 3), own(2, 0, 2), own(1, 2, 0)), 2, 2, api.ErrCircle},
		{row(own(2, 1, 3), own(2, 0, 0), own(1, 2, 23)), 2, 2, api.ErrCircle},
		// what would take it apart stands behind: it is told all the same
		{row(own(2, 1, 3), own(1, 2, 3), own(1, 0, 3)), 2, 1, api.ErrCircle},
		{row(own(2, 1, 3), own(1, 2, 3), own(2, 0, 3)), 2, 1, api.ErrCircle},
		{row(own(1, 1, 3), own(1, 0, 3)), 2, 0, api.ErrCircle},
	} {
		x.look(t)
	}
}

// P18.1: each kind of fault at each place of a row, and two of them: the first one is told.
func TestCheckEachPlace(t *testing.T) {
	faults := row(own(4, 1, 0), own(2, 4, 0), st(2, 1, -1, 0), st(2, 0, 0, 0), own(2, 1, 24), own(1, 2, 0), own(3, 3, 23), api.Stake{})
	for count := range 12 {
		l := many(count)
		checks(t, l, 3)
		for at := range count {
			for i, s := range faults {
				checks(t, with(l, s, at), 3)
				checks(t, with(with(l, faults[(i+3)%8], count-1), s, at), 3)
				checks(t, with(with(l, s, at), faults[(i+5)%8], count/2), 3)
			}
		}
	}
}

// P18.1, P18.2, P18.3, P18.6: each of a stake's numbers goes through its whole range.
func TestEachNumber(t *testing.T) {
	l := row(own(2, 1, 4), own(3, 2, 9))
	numbers := slices.Concat(far(), []int{0, 1, 2, 3, 4, 5, 22, 23, 24, 25, 39, 40, 41, 42, 9999, 10000, 10001})
	for _, a := range numbers {
		for _, n := range []int{3, 40, 41, 0, -1, least, most, a} {
			for _, s := range row(st(a, 1, 100, 2), st(3, a, 100, 2), st(3, a, 10000, 2), st(3, 1, a, 2), st(3, 0, a, 2), st(1, 3, 100, a), st(4, 3, 100, a), st(a, a, a, a)) {
				checks(t, row(s), n)
				checks(t, slices.Concat(l, row(s)), n)
				adds(t, l, s, n)
				adds(t, row(s), own(1, 2, 3), n)
				adds(t, slices.Concat(l, row(s)), own(1, 3, 3), n)
			}
		}
		for _, s := range row(st(a, 1, 100, 2), st(3, a, a, 2), st(3, 0, 10000, a), st(a, a, a, a)) {
			tellsAll(t, slices.Concat(l, row(s)), 3)
			tellsAll(t, slices.Concat(l, row(s)), a)
			tellsAll(t, slices.Concat(row(s), l), a)
		}
	}
}

// P18.2: what At tells, written out: of stakes in any order of From, and of several with the same one; in periods beyond those that there are, and of stakes that may not be.
func TestAt(t *testing.T) {
	example := row(own(2, 1, 0), own(2, 0, 3))
	example[0].Share = 8000
	mixed := row(st(2, 1, 8000, 5), st(3, 2, 6000, 0), st(2, 4, 5000, 2), st(2, 1, 7000, 5), st(3, 0, 10000, 9), st(2, 0, 10000, 1), st(2, 3, 4000, 2))
	odd := row(st(-1, 9, 77, least), st(0, -3, -4, -5), st(2, 2, 20000, 30), st(2, 0, 7, 24), st(2, 0, 3, -2), st(2, most, least, most))
	for _, x := range []struct {
		l                             []api.Stake
		entity, period, parent, share int
	}{
		{example, 2, 2, 1, 8000},
		{example, 2, 3, 0, 10000},
		{example, 2, 0, 1, 8000},
		{example, 2, 23, 0, 10000},
		{example, 2, -1, 0, 10000},
		{example, 1, 2, 0, 10000},
		{example, 3, 2, 0, 10000},
		{example, 0, 2, 0, 10000},
		{nil, 1, 0, 0, 10000},
		{nil, 0, least, 0, 10000},
		{nil, most, most, 0, 10000},
		{[]api.Stake{}, 1, 0, 0, 10000},
		{mixed, 2, 0, 0, 10000},
		{mixed, 2, 1, 0, 10000},
		{mixed, 2, 2, 3, 4000},
		{mixed, 2, 4, 3, 4000},
		{mixed, 2, 5, 1, 7000},
		{mixed, 2, 6, 1, 7000},
		{mixed, 2, 23, 1, 7000},
		{mixed, 2, 24, 1, 7000},
		{mixed, 2, most, 1, 7000},
		{mixed, 2, -1, 0, 10000},
		{mixed, 2, least, 0, 10000},
		{mixed, 3, 0, 2, 6000},
		{mixed, 3, 8, 2, 6000},
		{mixed, 3, 9, 0, 10000},
		{mixed, 1, 9, 0, 10000},
		{mixed, -2, 9, 0, 10000},
		{odd, -1, least, 9, 77},
		{odd, -1, 0, 9, 77},
		{odd, 0, -5, -3, -4},
		{odd, 0, -6, 0, 10000},
		{odd, 0, 3, -3, -4},
		{odd, 2, -3, 0, 10000},
		{odd, 2, -2, 0, 3},
		{odd, 2, 23, 0, 3},
		{odd, 2, 24, 0, 7},
		{odd, 2, 29, 0, 7},
		{odd, 2, 30, 2, 20000},
		{odd, 2, most - 1, 2, 20000},
		{odd, 2, most, most, least},
		{row(st(1, 2, 3, 0), st(1, 4, 5, 0)), 1, 0, 4, 5},
		{row(st(1, 4, 5, 0), st(1, 2, 3, 0)), 1, 0, 2, 3},
		{row(st(1, 4, 5, 1), st(1, 2, 3, 0)), 1, 1, 4, 5},
		{row(st(1, 4, 5, 1), st(1, 2, 3, 0), st(1, 6, 7, 1)), 1, 1, 6, 7},
		{row(st(1, 4, 5, least), st(1, 2, 3, least)), 1, least, 2, 3},
		{row(st(1, 0, 5, 0)), 1, 0, 0, 5},
	} {
		if parent, share := At(x.l, x.entity, x.period); parent != x.parent || share != x.share {
			t.Errorf("At(%v, %d, %d): %d, %d; not %d, %d", show(x.l), x.entity, x.period, parent, share, x.parent, x.share)
		}
		tellsAt(t, x.l, x.entity, x.period)
	}
}

// P18.2: what Froms tells, written out.
func TestFroms(t *testing.T) {
	l := row(own(2, 1, 5), own(3, 2, 0), own(2, 4, 2), own(2, 1, 5), own(3, 0, 9), own(2, 0, 1), own(2, 0, 23), own(2, 3, 2))
	odd := row(own(2, 1, most), own(2, 1, 24), own(-1, 1, 3), own(2, 1, -1), own(2, 1, least), own(2, 1, 24), own(0, 0, 7), own(most, 1, 8))
	for _, x := range []struct {
		l      []api.Stake
		entity int
		froms  []int
	}{
		{nil, 1, nil},
		{[]api.Stake{}, 0, nil},
		{l, 1, nil},
		{l, 2, []int{1, 2, 5, 23}},
		{l, 3, []int{0, 9}},
		{l, 4, nil},
		{l, 0, nil},
		{l, -2, nil},
		{odd, 2, []int{least, -1, 24, most}},
		{odd, 1, nil},
		{odd, -1, []int{3}},
		{odd, 0, []int{7}},
		{odd, most, []int{8}},
		{odd, least, nil},
		{row(own(1, 2, 4), own(1, 3, 4), own(1, 0, 4)), 1, []int{4}},
	} {
		if froms := Froms(x.l, x.entity); !slices.Equal(froms, x.froms) {
			t.Errorf("Froms(%v, %d): %v, not %v", show(x.l), x.entity, froms, x.froms)
		}
		tellsFroms(t, x.l, x.entity)
	}
}

// P18.3: what Add tells, written out: each error, the one that is named first ahead, the rows at the limit, and rows that may not be.
func TestAdd(t *testing.T) {
	l := row(own(2, 1, 0), own(3, 2, 5))
	for _, x := range []struct {
		l []api.Stake
		s api.Stake
		n int
		e api.Errno
	}{
		{nil, own(1, 0, 0), 1, api.OK},
		{nil, own(1, 2, 23), 2, api.OK},
		{[]api.Stake{}, own(1, 2, 23), 2, api.OK},
		{l, own(1, 0, 0), 3, api.OK},
		{l, own(2, 1, 0), 3, api.OK},
		{l, own(3, 0, 5), 3, api.OK},
		{l, own(1, 3, 4), 3, api.ErrCircle},
		{l, own(1, 3, 5), 3, api.ErrCircle},
		{l, own(1, 2, 0), 3, api.ErrCircle},
		{l, own(2, 3, 0), 3, api.ErrCircle},
		{l, own(2, 3, 23), 3, api.ErrCircle},
		{l, own(2, 3, 4), 3, api.ErrCircle},
		{append(l[:2:2], own(3, 0, 6)), own(2, 3, 6), 3, api.OK},
		{append(l[:2:2], own(3, 0, 6)), own(2, 3, 5), 3, api.ErrCircle},
		{l, own(4, 1, 0), 3, api.ErrEntity},
		{l, st(3, 1, 10001, 0), 3, api.ErrShare},
		{l, own(3, 1, 24), 3, api.ErrPeriod},
		{l, own(1, 1, 24), 3, api.ErrPeriod},
		{many(399), own(3, 1, 0), 3, api.OK},
		{many(399), own(1, 3, 23), 3, api.ErrCircle},
		{many(399), own(4, 1, 0), 3, api.ErrEntity},
		{many(400), own(3, 1, 0), 3, api.ErrFull},
		{many(400), own(4, 1, 0), 3, api.ErrFull},
		{many(400), own(1, 1, 24), 3, api.ErrFull},
		{many(401), own(3, 1, 0), 3, api.ErrFull},
		{many(1 << 10), own(3, 1, 0), 3, api.ErrFull},
		{make([]api.Stake, 400), own(1, 0, 0), 3, api.ErrFull},
		{make([]api.Stake, 399), own(1, 0, 0), 3, api.OK},
		// what is wrong with those that are there plays no part
		{row(own(9, 1, 0), st(1, 1, -7, 99), own(2, 1, -4)), own(3, 1, 0), 3, api.OK},
		{row(own(1, 1, 0)), own(2, 1, 0), 2, api.OK},
		{row(own(1, 1, 0)), own(2, 0, 0), 2, api.OK},
		{row(own(2, 3, 0), own(3, 2, 0)), own(1, 2, 0), 3, api.OK},
		{row(own(2, 2, 0)), own(1, 2, 0), 3, api.OK},
		{row(own(2, 3, 0), own(3, 4, 0), own(4, 3, 0)), own(1, 2, 0), 4, api.OK},
		{row(own(2, 3, 0), own(3, 2, 0)), own(2, 1, 0), 3, api.OK},
		{row(own(2, 3, 0), own(3, 2, 0)), own(2, 1, 1), 3, api.ErrCircle}, // as in period 0 it goes round still
		{row(own(2, 3, 0), own(3, 2, 0)), own(2, 0, 1), 3, api.ErrCircle},
		{row(own(2, 3, 0), own(3, 2, 1)), own(2, 0, 1), 3, api.OK},
		{row(own(1, 1, 0)), own(1, 0, 0), 2, api.OK},
		{row(own(1, 1, 0)), own(1, 0, 1), 2, api.ErrCircle},
		{row(own(1, 1, 24), own(1, 1, most)), own(1, 0, 1), 2, api.OK},
		{row(own(1, 1, -1)), own(1, 0, 1), 2, api.ErrCircle},
		{row(own(1, 1, -1)), own(1, 0, 0), 2, api.OK},
		{row(own(2, 1, -5)), own(1, 2, 0), 2, api.ErrCircle},
		{row(own(2, 1, 24)), own(1, 2, 0), 2, api.OK},
		{row(own(2, 9, 0), own(9, 1, 0)), own(1, 2, 0), 2, api.ErrCircle},
		{row(own(2, -9, 0), own(-9, 1, 0)), own(1, 2, 0), 2, api.ErrCircle},
		{row(own(2, most, 0), own(most, least, 0), own(least, 1, 0)), own(1, 2, 0), 2, api.ErrCircle},
		{row(st(0, 1, 5, 0)), own(1, 0, 0), 2, api.OK}, // 0 is none, whoever is said to hold it
		{row(own(2, 0, 0), st(0, 1, 5, 0)), own(1, 2, 0), 2, api.OK},
	} {
		var want []api.Stake
		if x.e == api.OK {
			want = append(slices.Clone(x.l), x.s)
		}
		if out, e := Add(x.l, x.s, x.n); !slices.Equal(out, want) || e != x.e {
			t.Errorf("Add(%v, %v, %d): %v, %v; not %v, %v", show(x.l), x.s, x.n, show(out), e, show(want), x.e)
		}
		adds(t, x.l, x.s, x.n)
	}
}

// P18.3: rows that are added to the same one, with much spare room, do not touch one another, nor it, nor its spare room.
func TestAddToTheSame(t *testing.T) {
	one, two := own(3, 1, 9), own(2, 0, 8)
	whole := slices.Repeat(row(st(-7, -7, -7, -7)), 500)
	for count := range 400 {
		copy(whole, many(count))
		was := slices.Clone(whole)
		l := whole[:count]
		a, e := Add(l, one, 3)
		b, f := Add(l, two, 3)
		if e != api.OK || f != api.OK || !slices.Equal(a, append(many(count), one)) || !slices.Equal(b, append(many(count), two)) {
			t.Fatalf("Add of %v and of %v to %v: %v, %v; %v, %v", one, two, show(l), show(a), e, show(b), f)
		}
		spoil(a, api.Stake{})
		if !slices.Equal(b, append(many(count), two)) || !slices.Equal(whole, was) {
			t.Fatalf("Add of %v and of %v to %v, the first one written over: %v; and in that row %v", one, two, show(l), show(b), show(whole))
		}
		spoil(whole, st(-7, -7, -7, -7))
		if !slices.Equal(b, append(many(count), two)) {
			t.Fatalf("Add of %v to a row of %d, that one written over: %v", two, count, show(b))
		}
	}
}

// P18.6: what Spans tells, written out.
func TestSpans(t *testing.T) {
	none := []Span{{0, 23, 0, 10000}}
	changing := func(period int) (l []api.Stake, spans []Span) {
		for from := range period {
			l = append(l, st(2, 1, 24-from, from))
			spans = append(spans, Span{from, from, 1, 24 - from})
		}
		spans[period-1].To = 23
		return l, spans
	}
	all, each := changing(24)
	some, fewer := changing(5)
	for _, x := range []struct {
		l      []api.Stake
		entity int
		spans  []Span
	}{
		{nil, 1, none},
		{[]api.Stake{}, 0, none},
		{nil, least, none},
		{row(st(2, 1, 8000, 0), own(2, 0, 3)), 2, []Span{{0, 2, 1, 8000}, {3, 23, 0, 10000}}},
		{row(st(2, 1, 8000, 0), own(2, 0, 3)), 1, none},
		{row(st(2, 1, 8000, 0)), 2, []Span{{0, 23, 1, 8000}}},
		{row(st(2, 1, 8000, 1)), 2, []Span{{0, 0, 0, 10000}, {1, 23, 1, 8000}}},
		{row(st(2, 1, 8000, 23)), 2, []Span{{0, 22, 0, 10000}, {23, 23, 1, 8000}}},
		{row(st(2, 1, 8000, 22), own(2, 0, 23)), 2, []Span{{0, 21, 0, 10000}, {22, 22, 1, 8000}, {23, 23, 0, 10000}}},
		{row(own(2, 0, 7)), 2, none},                                                                                                  // it tells what was told
		{row(st(2, 1, 50, 0), st(2, 1, 50, 4), st(2, 1, 50, 9)), 2, []Span{{0, 23, 1, 50}}},                                           // one piece
		{row(st(2, 1, 50, 0), st(2, 1, 51, 4), st(2, 1, 50, 9)), 2, []Span{{0, 3, 1, 50}, {4, 8, 1, 51}, {9, 23, 1, 50}}},             // not the Parent alone
		{row(st(2, 1, 50, 0), st(2, 3, 50, 4), st(2, 1, 50, 9)), 2, []Span{{0, 3, 1, 50}, {4, 8, 3, 50}, {9, 23, 1, 50}}},             // not the Share alone
		{row(st(2, 1, 50, 0), st(2, 3, 60, 4), st(2, 1, 50, 4)), 2, []Span{{0, 23, 1, 50}}},                                           // the last one of a From
		{row(st(2, 0, 50, 0), st(2, 0, 10000, 4)), 2, []Span{{0, 3, 0, 50}, {4, 23, 0, 10000}}},                                       // by none, with a share that may not be
		{row(st(2, 1, 10000, 4)), 2, []Span{{0, 3, 0, 10000}, {4, 23, 1, 10000}}},                                                     // the same share, by one
		{row(st(2, 1, 50, -3), st(2, 1, 60, 24), st(2, 9, 70, -9)), 2, []Span{{0, 23, 1, 50}}},                                        // with a From that is no period
		{row(st(2, 1, 50, least), st(2, 1, 60, most)), 2, []Span{{0, 23, 1, 50}}},                                                     // and with one far away
		{row(st(2, 1, 50, 24)), 2, none},                                                                                              // it never begins
		{row(st(2, 7, 1, 9), st(2, 5, 2, 3), st(2, 6, 3, 6)), 2, []Span{{0, 2, 0, 10000}, {3, 5, 5, 2}, {6, 8, 6, 3}, {9, 23, 7, 1}}}, // in any order
		{row(st(0, -5, 66, 3), st(-1, 8, 9, 3)), 0, []Span{{0, 2, 0, 10000}, {3, 23, -5, 66}}},
		{all, 2, each},
		{slices.Concat(all[12:], all[:12]), 2, each},
		{some, 2, fewer},
		{all, 1, none},
	} {
		if spans := Spans(x.l, x.entity); !slices.Equal(spans, x.spans) {
			t.Errorf("Spans(%v, %d): %v, not %v", show(x.l), x.entity, spans, x.spans)
		}
		tellsSpans(t, x.l, x.entity)
	}
}

// each tells all rows of so many stakes out of some.
func each(count int, stakes []api.Stake, tell func(l []api.Stake)) {
	if count == 0 {
		tell(nil)
		return
	}
	each(count-1, stakes, func(l []api.Stake) {
		for _, s := range stakes {
			tell(append(slices.Clone(l), s))
		}
	})
}

// allStakes makes all stakes of so many entities with these Froms.
func allStakes(n int, froms ...int) []api.Stake {
	var l []api.Stake
	for entity := 1; entity <= n; entity++ {
		for parent := 0; parent <= n; parent++ {
			for _, from := range froms {
				l = append(l, own(entity, parent, from))
			}
		}
	}
	return l
}

// P18.1 to P18.3, P18.6: all rows of up to 2 or 3 stakes of two and of three entities, with one to three Froms each, some with faults, with all that may be added and asked.
func TestAllSmallRows(t *testing.T) {
	for _, x := range []struct {
		stakes   []api.Stake
		n, count int
	}{{allStakes(2, 0, 23), 2, 3}, {allStakes(2, 4, 5, 6), 2, 2}, {allStakes(3, 7), 3, 3}, {allStakes(3, 3, 9), 3, 2}, {append(allStakes(2, 3), api.Stake{}, own(3, 1, 0), own(1, 3, 0), own(2, 1, 24), own(2, 1, -1), own(1, 2, 24), st(1, 2, -1, 3)), 2, 3}} {
		for count := range x.count + 1 {
			each(count, x.stakes, func(l []api.Stake) {
				checks(t, l, x.n)
				for entity := range x.n + 2 {
					tellsFroms(t, l, entity)
					tellsSpans(t, l, entity)
				}
				for _, s := range x.stakes { // so that rows with one more stake are looked at, too, those that may not be ahead of it among them
					adds(t, l, s, x.n)
				}
			})
		}
	}
}

func drawnNumber(r *rand.Rand) int {
	if r.Intn(2) == 0 {
		return far()[r.Intn(len(far()))]
	}
	return int(r.Uint64()) >> r.Intn(64)
}

// drawnStake is a stake of n entities that may be, unless it goes round, with few Froms, if so asked.
func drawnStake(r *rand.Rand, n, froms int) api.Stake {
	s := st(1+r.Intn(n), r.Intn(n+1), r.Intn(10001), (24/froms)*r.Intn(froms))
	if s.Parent == 0 {
		s.Share = 10000
	}
	return s
}

// spoilt is a stake, one number of which is another one now and then.
func spoilt(r *rand.Rand, s api.Stake) api.Stake {
	switch r.Intn(30) {
	case 0:
		s.Entity = drawnNumber(r)
	case 1:
		s.Parent = drawnNumber(r)
	case 2:
		s.Share = drawnNumber(r)
	case 3:
		s.From = drawnNumber(r)
	case 4:
		s.Entity, s.Parent = s.Parent, s.Entity
	}
	return s
}

func drawnRow(r *rand.Rand, count, n, froms int) []api.Stake {
	l := make([]api.Stake, count)
	for i := range l {
		l[i] = spoilt(r, drawnStake(r, n, froms))
	}
	return l
}

// grown is a row that comes of Adds: those that are refused are left out.
func grown(r *rand.Rand, tries, n, froms int) []api.Stake {
	var l []api.Stake
	for range tries {
		if m, e := Add(l, drawnStake(r, n, froms), n); e == api.OK {
			l = m
		}
	}
	return l
}

// P18.1 to P18.3, P18.6: drawn calls. (The draw is the same each time.)
func TestDrawn(t *testing.T) {
	r := rand.New(rand.NewSource(1))
	for range 6000 {
		n, froms := 1+r.Intn(8), []int{1, 2, 6, 24}[r.Intn(4)]
		l := drawnRow(r, r.Intn(20), n, froms)
		if r.Intn(2) == 0 {
			l = grown(r, r.Intn(25), n, froms)
		}
		checks(t, l, n)
		checks(t, l, r.Intn(10)-1)
		adds(t, l, spoilt(r, drawnStake(r, n, froms)), n)
		adds(t, l, spoilt(r, drawnStake(r, n, froms)), drawnNumber(r))
		for range 4 {
			entity := r.Intn(n + 2)
			tellsAt(t, l, entity, r.Intn(30)-3)
			tellsAt(t, l, entity, drawnNumber(r))
			tellsFroms(t, l, entity)
			tellsSpans(t, l, entity)
		}
	}
	for range 12 {
		l := grown(r, 1200, 40, 24)
		checks(t, l, 40)
		adds(t, l, drawnStake(r, 40, 24), 40)
		tellsAll(t, l, 1+r.Intn(40))
	}
}

// P18.1: rows that take the most steps end soon: a chain of 400, whose links are each said anew in the order that makes all ways long; circles above an entity that do not go through it.
func TestLongWays(t *testing.T) {
	deep := chain(201, 0)
	for entity := 201; entity > 1; entity-- {
		deep = append(deep, own(entity, entity-1, 23))
	}
	checked{deep, 201, 400, api.OK}.look(t)
	for count := 1; count <= 398; count++ {
		l := append(chain(count+1, 0)[:count-1], own(1, max(count, 1), 0)) // 1 to count go round
		l = append(l, own(count+2, count, 0))
		if out, e := Add(l, own(count+1, count+2, 0), count+2); e != api.OK || len(out) != len(l)+1 {
			t.Fatalf("below a circle of %d: %d stakes, %v", count, len(out), e)
		}
		if out, e := Add(l, own(1, count, 23), count+2); e != api.ErrCircle || len(out) != 0 {
			t.Fatalf("in a circle of %d: %d stakes, %v", count, len(out), e)
		}
	}
}

// P18.4: of stakes that may be, no entity comes back to itself, in any period; those that Adds made may be.
func TestNoneComesBack(t *testing.T) {
	r := rand.New(rand.NewSource(2))
	for range 400 {
		n, froms := 1+r.Intn(9), []int{1, 2, 6, 24}[r.Intn(4)]
		l := grown(r, r.Intn(60), n, froms)
		if at, e := Check(l, n); at != len(l) || e != api.OK {
			t.Fatalf("Check(%v, %d): %d, %v", show(l), n, at, e)
		}
		for entity := 1; entity <= n; entity++ {
			for period := range 24 {
				at, steps := entity, 0
				for at != 0 && steps <= n {
					at, _ = At(l, at, period)
					steps++
				}
				if steps > n {
					t.Fatalf("entity %d of %d, in %d, by %v: no end above it", entity, n, period, show(l))
				}
			}
		}
	}
}

// P18.5: with one more stake behind, At is another one in that entity's periods from its From on, up to the next From: there it tells that stake; all else stays.
func TestOneMoreBehind(t *testing.T) {
	r := rand.New(rand.NewSource(3))
	for range 1500 {
		n, froms := 1+r.Intn(5), []int{1, 2, 6, 24}[r.Intn(4)]
		l, s := drawnRow(r, r.Intn(16), n, froms), spoilt(r, drawnStake(r, n, froms))
		if r.Intn(2) == 0 {
			l, s = grown(r, r.Intn(25), n, froms), drawnStake(r, n, froms)
		}
		m := slices.Concat(l, row(s))
		next := slices.DeleteFunc(Froms(l, s.Entity), func(from int) bool { return from <= s.From })
		periods := append(far(), s.From, s.From-1, s.From+1)
		for period := -2; period <= 26; period++ {
			periods = append(periods, period)
		}
		for _, entity := range append([]int{s.Entity, -1, 0, n + 1}, r.Perm(n+1)...) {
			for _, period := range periods {
				parent, share := At(l, entity, period)
				if entity == s.Entity && period >= s.From && (len(next) == 0 || period < next[0]) {
					parent, share = s.Parent, s.Share
				}
				if p, h := At(m, entity, period); p != parent || h != share {
					t.Fatalf("At(%v, %d, %d), behind %v: %d, %d; not %d, %d", m, entity, period, s, p, h, parent, share)
				}
			}
		}
	}
}

// P18.7: the Spans begin at 0, end at 23, and lie next to one another; two that do differ; each tells what At tells in all of its periods.
func TestSpansCover(t *testing.T) {
	r := rand.New(rand.NewSource(4))
	for range 3000 {
		n := 1 + r.Intn(3)
		l := drawnRow(r, r.Intn(30), n, []int{1, 2, 6, 24}[r.Intn(4)])
		for i := range l {
			l[i].Share = l[i].Share / 5000 * 5000 // so that many are alike
		}
		for entity := range n + 2 {
			spans := Spans(l, entity)
			next := 0
			for i, x := range spans {
				if x.From != next || x.To < x.From || i > 0 && x.Parent == spans[i-1].Parent && x.Share == spans[i-1].Share {
					t.Fatalf("Spans(%v, %d): %v", l, entity, spans)
				}
				for period := x.From; period <= x.To; period++ {
					if parent, share := At(l, entity, period); parent != x.Parent || share != x.Share {
						t.Fatalf("Spans(%v, %d): %v; At tells %d, %d in %d", l, entity, spans, parent, share, period)
					}
				}
				next = x.To + 1
			}
			if next != 24 {
				t.Fatalf("Spans(%v, %d): %v", l, entity, spans)
			}
		}
	}
}

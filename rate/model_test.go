package rate

import (
	"math"
	"math/big"
	"slices"
	"testing"

	"gavelkind/api"
)

const most, least, top = math.MaxInt, math.MinInt, 1000000000000

// far are numbers that are neither currencies, kinds nor periods; some of them look like one, if bits are cut off.
func far() []int {
	return []int{-1, -2, -3, -8, -24, 256, 257, 258, 1 << 16, 1<<16 + 1, 1<<31 + 1, 1 << 32, 1<<32 + 1, 1<<32 + 2, 1<<32 + 23, -1<<32 + 1, least, least + 1, least + 2, most - 1, most}
}

func of(num, den int) api.Ratio { return api.Ratio{Num: num, Den: den} }

// wrongRatios are Ratios that may not be, by Num, by Den, and by both.
func wrongRatios() []api.Ratio {
	l := []api.Ratio{{}}
	for _, n := range []int{0, -1, -2, -top, least, least + 1, top + 1, top + 2, 1 << 40, 1 << 62, most - 1, most} {
		l = append(l, of(n, 1), of(1, n), of(n, top), of(top, n), of(n, n))
	}
	return l
}

// rt is a rate with all its parts.
func rt(from, to, kind, period, num, den int) api.Rate {
	return api.Rate{From: from, To: to, Kind: kind, Period: period, Ratio: of(num, den)}
}

// ask is a key, whose Ratio is none that may be.
func ask(from, to, kind, period int) api.Rate { return rt(from, to, kind, period, -5, 0) }

// near is a rate of Kind 1 in period 0.
func near(from, to, num, den int) api.Rate { return rt(from, to, 1, 0, num, den) }

func row(r ...api.Rate) []api.Rate { return r }

// many are so many rates that may be, up to 4032, no two with one key, each with a Ratio of its own.
func many(count int) []api.Rate {
	l := make([]api.Rate, count)
	for i := range l {
		from, to := 1+i%8, 1+(i%8+1+i/8%7)%8
		l[i] = rt(from, to, 1+i/56%3, i/168%24, i+1, i%9+1)
	}
	return l
}

// with is a row that has another rate at some places.
func with(l []api.Rate, r api.Rate, places ...int) []api.Rate {
	l = slices.Clone(l)
	for _, at := range places {
		l[at] = r
	}
	return l
}

// show tells a row for a fault's text: of a long one its ends.
func show(l []api.Rate) any {
	if len(l) <= 30 {
		return l
	}
	return []any{len(l), l[:6], l[len(l)-6:]}
}

// spoil writes over all of an answer, its spare room, too: that is its owner's to do.
func spoil[T any](l []T, odd T) {
	l = l[:cap(l)]
	for i := range l {
		l[i] = odd
	}
}

// lent is a row that is handed in, and how all of it was, its spare room, too.
type lent struct {
	whole, was []api.Rate
	count      int
}

func lend(l []api.Rate) lent {
	whole := slices.Concat(l, row(near(1, 2, 77, 78), rt(-7, 3, 1, 2, 0, 9), near(2, 1, 79, 80), api.Rate{}))
	return lent{whole, slices.Clone(whole), len(l)}
}

func (l lent) row() []api.Rate { return l.whole[:l.count] }

// look looks at whether what was lent is as it was.
func (l lent) look(t *testing.T, call string) {
	t.Helper()
	if !slices.Equal(l.whole, l.was) {
		t.Fatalf("%s: of the row %v, and its spare room, it made %v", call, show(l.was), show(l.whole))
	}
}

// What has to be told, by the chapter's words.

func isFrom(n, lo, hi int) bool { return lo <= n && n <= hi }

func mayBe(r api.Ratio) bool { return isFrom(r.Num, 1, top) && isFrom(r.Den, 1, top) }

func hasKey(r, k api.Rate) bool {
	return r.From == k.From && r.To == k.To && r.Kind == k.Kind && r.Period == k.Period
}

func wantWrong(r api.Rate) api.Errno {
	if !isFrom(r.From, 1, 8) || !isFrom(r.To, 1, 8) || r.From == r.To {
		return api.ErrCurrency
	}
	if !isFrom(r.Kind, 1, 3) {
		return api.ErrKind
	}
	if !isFrom(r.Period, 0, 23) {
		return api.ErrPeriod
	}
	if !mayBe(r.Ratio) {
		return api.ErrRatio
	}
	return api.OK
}

func wantCheck(l []api.Rate) (int, api.Errno) {
	if len(l) > 2000 {
		return 0, api.ErrFull
	}
	for at, r := range l {
		if e := wantWrong(r); e != api.OK {
			return at, e
		}
	}
	return len(l), api.OK
}

// places tells where all rates with a key are.
func places(l []api.Rate, k api.Rate) []int {
	var all []int
	for at, r := range l {
		if hasKey(r, k) {
			all = append(all, at)
		}
	}
	return all
}

func wantFind(l []api.Rate, k api.Rate) (api.Ratio, bool) {
	all := places(l, k)
	if len(all) == 0 {
		return api.Ratio{}, false
	}
	return l[all[len(all)-1]].Ratio, true
}

func wantSet(l []api.Rate, r api.Rate) ([]api.Rate, api.Errno) {
	if e := wantWrong(r); e != api.OK {
		return nil, e
	}
	if all := places(l, r); len(all) > 0 {
		return with(l, r, all[len(all)-1]), api.OK
	}
	if len(l) >= 2000 {
		return nil, api.ErrFull
	}
	return append(slices.Clone(l), r), api.OK
}

// lowest tells the Ratio of a number in its lowest terms, as big finds them; none, if they are beyond what a rate may have.
func lowest(x *big.Rat) (api.Ratio, bool) {
	num, den := x.Num(), x.Denom()
	if num.Cmp(big.NewInt(top)) > 0 || den.Cmp(big.NewInt(top)) > 0 {
		return api.Ratio{}, false
	}
	return of(int(num.Int64()), int(den.Int64())), true
}

func wantInverse(r api.Ratio) (api.Ratio, bool) {
	if !mayBe(r) {
		return api.Ratio{}, false
	}
	return lowest(big.NewRat(int64(r.Den), int64(r.Num)))
}

func wantTimes(a, b api.Ratio) (api.Ratio, bool) {
	if !mayBe(a) || !mayBe(b) {
		return api.Ratio{}, false
	}
	return lowest(new(big.Rat).Mul(big.NewRat(int64(a.Num), int64(a.Den)), big.NewRat(int64(b.Num), int64(b.Den))))
}

// wantLeg tells what Find tells of a key, or else the Inverse of what it tells of the other way.
func wantLeg(l []api.Rate, from, to int, k api.Rate) (api.Ratio, bool) {
	if r, ok := wantFind(l, ask(from, to, k.Kind, k.Period)); ok {
		return r, true
	}
	if r, ok := wantFind(l, ask(to, from, k.Kind, k.Period)); ok {
		return wantInverse(r)
	}
	return api.Ratio{}, false
}

func wantCross(l []api.Rate, k api.Rate) (api.Ratio, bool) {
	if r, ok := wantLeg(l, k.From, k.To, k); ok {
		return r, true
	}
	for c := 1; c <= 8; c++ {
		one, is := wantLeg(l, k.From, c, k)
		two, ok := wantLeg(l, c, k.To, k)
		if c == k.From || c == k.To || !is || !ok {
			continue
		}
		if r, ok := wantTimes(one, two); ok {
			return r, true
		}
	}
	return api.Ratio{}, false
}

func wantKnown(l []api.Rate, k api.Rate) []int {
	var known []int
	for _, r := range l {
		if _, ok := wantFind(l, ask(k.From, k.To, k.Kind, r.Period)); ok && !slices.Contains(known, r.Period) {
			known = append(known, r.Period)
		}
	}
	for i := range known { // the least of those that are left comes next
		for j := i + 1; j < len(known); j++ {
			if known[j] < known[i] {
				known[i], known[j] = known[j], known[i]
			}
		}
	}
	return known
}

// Calls, of which what is told is held against what has to be, and what was handed in against what it was.

func checks(t *testing.T, l []api.Rate) {
	t.Helper()
	in := lend(l)
	at, e := Check(in.row())
	if wantAt, want := wantCheck(l); at != wantAt || e != want {
		t.Fatalf("Check(%v): %d, %v; not %d, %v", show(l), at, e, wantAt, want)
	}
	in.look(t, "Check")
}

func finds(t *testing.T, l []api.Rate, k api.Rate) {
	t.Helper()
	in := lend(l)
	r, ok := Find(in.row(), k)
	if want, wantOk := wantFind(l, k); r != want || ok != wantOk {
		t.Fatalf("Find(%v, %v): %v, %v; not %v, %v", show(l), k, r, ok, want, wantOk)
	}
	in.look(t, "Find")
}

func sets(t *testing.T, l []api.Rate, r api.Rate) {
	t.Helper()
	in := lend(l)
	out, e := Set(in.row(), r)
	if wantOut, want := wantSet(l, r); !slices.Equal(out, wantOut) || e != want {
		t.Fatalf("Set(%v, %v): %v, %v; not %v, %v", show(l), r, show(out), e, show(wantOut), want)
	}
	in.look(t, "Set")
	spoil(out, rt(-99, -99, -99, -99, -99, -99))
	in.look(t, "Set, its answer written over")
}

func crosses(t *testing.T, l []api.Rate, k api.Rate) {
	t.Helper()
	in := lend(l)
	r, ok := Cross(in.row(), k)
	if want, wantOk := wantCross(l, k); r != want || ok != wantOk {
		t.Fatalf("Cross(%v, %v): %v, %v; not %v, %v", show(l), k, r, ok, want, wantOk)
	}
	in.look(t, "Cross")
}

func knows(t *testing.T, l []api.Rate, k api.Rate) {
	t.Helper()
	in := lend(l)
	known := Known(in.row(), k)
	if want := wantKnown(l, k); !slices.Equal(known, want) {
		t.Fatalf("Known(%v, %v): %v, not %v", show(l), k, known, want)
	}
	in.look(t, "Known")
	spoil(known, -99)
	in.look(t, "Known, its answer written over")
}

// tellsAll makes all calls that are told of a row and a key.
func tellsAll(t *testing.T, l []api.Rate, k api.Rate) {
	t.Helper()
	finds(t, l, k)
	crosses(t, l, k)
	knows(t, l, k)
}

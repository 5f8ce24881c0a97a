package rate

import (
	"math/rand"
	"slices"
	"testing"

	"gavelkind/api"
	"gavelkind/ratio"
)

// refuses looks at whether Check tells a place and an error, written out; and what the model tells.
func refuses(t *testing.T, l []api.Rate, at int, e api.Errno) {
	t.Helper()
	if isAt, is := Check(l); isAt != at || is != e {
		t.Errorf("Check(%v): %d, %v; not %d, %v", show(l), isAt, is, at, e)
	}
	checks(t, l)
}

func accepts(t *testing.T, l []api.Rate) {
	t.Helper()
	refuses(t, l, len(l), api.OK)
}

// fault is a rate that may not be, and why.
type fault struct {
	r api.Rate
	e api.Errno
}

// oneFaults are rates with one fault each.
func oneFaults() []fault {
	return []fault{
		{near(0, 1, 1, 1), api.ErrCurrency},
		{near(1, 9, 1, 1), api.ErrCurrency},
		{near(3, 3, 1, 1), api.ErrCurrency},
		{rt(1, 2, 0, 0, 1, 1), api.ErrKind},
		{rt(1, 2, 4, 0, 1, 1), api.ErrKind},
		{rt(1, 2, 1, -1, 1, 1), api.ErrPeriod},
		{rt(1, 2, 1, 24, 1, 1), api.ErrPeriod},
		{near(1, 2, 0, 1), api.ErrRatio},
		{near(1, 2, 1, top+1), api.ErrRatio},
	}
}

// severalFaults are rates with several faults each, and the error that is named first.
func severalFaults() []fault {
	return []fault{
		{api.Rate{}, api.ErrCurrency},
		{rt(0, 1, 0, -1, 0, 0), api.ErrCurrency},
		{rt(1, 0, 4, 0, 1, 1), api.ErrCurrency},
		{rt(9, 1, 1, 24, 1, 1), api.ErrCurrency},
		{rt(2, 2, 0, 0, 1, 1), api.ErrCurrency},
		{rt(2, 2, 1, 24, 1, 1), api.ErrCurrency},
		{rt(2, 2, 1, 0, 0, 1), api.ErrCurrency},
		{rt(0, 0, 1, 0, 1, 1), api.ErrCurrency},
		{rt(9, 9, 3, 23, 1, 1), api.ErrCurrency},
		{rt(1, 2, 0, -1, 1, 1), api.ErrKind},
		{rt(1, 2, 4, 24, 0, 0), api.ErrKind},
		{rt(1, 2, 0, 0, 1, 0), api.ErrKind},
		{rt(1, 2, least, most, 1, 1), api.ErrKind},
		{rt(1, 2, 3, -1, 0, 1), api.ErrPeriod},
		{rt(1, 2, 1, 24, 1, top+1), api.ErrPeriod},
		{rt(1, 2, 2, most, -1, -1), api.ErrPeriod},
	}
}

// P21.1: how many rates there may be, with a fault at the first place, in the middle and at the last one: ErrFull ahead of all others.
func TestCheckHowMany(t *testing.T) {
	accepts(t, nil)
	accepts(t, row())
	for _, count := range []int{1, 2, 3, 24, 1000, 1999, 2000} {
		accepts(t, many(count))
		accepts(t, slices.Repeat(row(near(1, 2, 3, 2)), count))
		for _, x := range append(oneFaults(), severalFaults()...) {
			for _, at := range []int{0, count / 2, count - 1} {
				refuses(t, with(many(count), x.r, at), at, x.e)
			}
			refuses(t, slices.Repeat(row(x.r), count), 0, x.e)
		}
	}
	for _, count := range []int{2001, 2002, 2256, 4000, 1 << 16, 1<<16 + 1} {
		refuses(t, slices.Repeat(row(near(1, 2, 3, 2)), count), 0, api.ErrFull)
		refuses(t, make([]api.Rate, count), 0, api.ErrFull)
	}
	refuses(t, many(2001), 0, api.ErrFull)
	for _, x := range append(oneFaults(), severalFaults()...) {
		for _, at := range []int{0, 1000, 2000} {
			refuses(t, with(many(2001), x.r, at), 0, api.ErrFull)
		}
	}
}

// P21.1: of one rate ErrCurrency ahead of ErrKind ahead of ErrPeriod ahead of ErrRatio; of two wrong rates the first one's.
func TestCheckFirst(t *testing.T) {
	all := append(oneFaults(), severalFaults()...)
	for _, x := range all {
		refuses(t, row(x.r), 0, x.e)
		for _, y := range all {
			refuses(t, row(x.r, y.r), 0, x.e)
			refuses(t, row(near(1, 2, 1, 1), x.r, y.r), 1, x.e)
			refuses(t, row(x.r, near(1, 2, 1, 1), y.r), 0, x.e)
			refuses(t, row(near(1, 2, 1, 1), near(1, 2, 1, 1), x.r, near(2, 1, 1, 1), y.r), 2, x.e)
		}
	}
}

// P21.1: two rates with one key may be, next to one another or not, with one Ratio or two.
func TestCheckTwice(t *testing.T) {
	accepts(t, row(near(1, 2, 1, 1), near(1, 2, 1, 1)))
	accepts(t, row(near(1, 2, 1, 1), near(1, 2, 2, 1)))
	accepts(t, row(near(1, 2, 1, 1), near(2, 1, 7, 1), near(3, 1, 2, 1), near(1, 2, 5, 2)))
	accepts(t, row(rt(8, 7, 3, 23, 1, 1), rt(8, 7, 3, 23, 1, top), rt(8, 7, 3, 23, top, 1)))
}

// P21.1, P21.3: From and To go through all currencies, and beyond.
func TestCurrencies(t *testing.T) {
	numbers := append(far(), 0, 1, 2, 3, 4, 5, 6, 7, 8, 9, 10)
	for _, from := range numbers {
		for _, to := range numbers {
			r := rt(from, to, 3, 23, 6, 4)
			if from >= 1 && from <= 8 && to >= 1 && to <= 8 && from != to {
				accepts(t, row(r))
				setsTo(t, nil, r, row(r))
				continue
			}
			refuses(t, row(near(1, 2, 1, 1), r), 1, api.ErrCurrency)
			setsNone(t, row(near(1, 2, 1, 1)), r, api.ErrCurrency)
		}
	}
}

// P21.1, P21.3: Kind and Period go through all that may be, and beyond.
func TestKindsAndPeriods(t *testing.T) {
	numbers := far()
	for n := range 27 {
		numbers = append(numbers, n)
	}
	for _, kind := range numbers {
		for _, period := range numbers {
			r := rt(1, 8, kind, period, 1, 1)
			switch {
			case kind < 1 || kind > 3:
				refuses(t, row(near(1, 2, 1, 1), r), 1, api.ErrKind)
				setsNone(t, row(near(1, 2, 1, 1)), r, api.ErrKind)
			case period < 0 || period > 23:
				refuses(t, row(near(1, 2, 1, 1), r), 1, api.ErrPeriod)
				setsNone(t, row(near(1, 2, 1, 1)), r, api.ErrPeriod)
			default:
				accepts(t, row(near(1, 2, 1, 1), r))
				setsTo(t, nil, r, row(r))
			}
		}
	}
}

// P21.1, P21.3: Ratios that may be, in lowest terms or not, and such as may not be.
func TestRatios(t *testing.T) {
	for _, num := range []int{1, 2, 3, 4, 6, 1 << 20, 1 << 32, top - 1, top} {
		for _, den := range []int{1, 2, 3, 4, 6, 1 << 20, 1 << 32, top - 1, top} {
			r := rt(2, 1, 2, 7, num, den)
			accepts(t, row(r))
			setsTo(t, row(rt(2, 1, 2, 7, 5, 5)), r, row(r)) // as it came, not in lowest terms
		}
	}
	for _, wrong := range wrongRatios() {
		r := rt(2, 1, 2, 7, wrong.Num, wrong.Den)
		refuses(t, row(r), 0, api.ErrRatio)
		refuses(t, row(near(1, 2, 1, 1), r), 1, api.ErrRatio)
		setsNone(t, nil, r, api.ErrRatio)
		setsNone(t, row(rt(2, 1, 2, 7, 5, 5)), r, api.ErrRatio)
	}
}

// tellsOf looks at whether Find tells a Ratio of a key, written out, whatever Ratio the key has; and what the model tells.
func tellsOf(t *testing.T, l []api.Rate, k api.Rate, want api.Ratio, wantOk bool) {
	t.Helper()
	for _, odd := range append(wrongRatios(), of(1, 1), of(7, 3), want) {
		k.Ratio = odd
		if r, ok := Find(l, k); r != want || ok != wantOk {
			t.Errorf("Find(%v, %v): %v, %v; not %v, %v", show(l), k, r, ok, want, wantOk)
		}
	}
	finds(t, l, k)
}

// P21.2: what Find tells, written out: of a key that no rate has, that one has, and that several have, at each place.
func TestFind(t *testing.T) {
	k, none := ask(1, 2, 1, 0), api.Ratio{}
	tellsOf(t, nil, k, none, false)
	tellsOf(t, row(), k, none, false)
	tellsOf(t, row(near(1, 2, 6, 4)), k, of(6, 4), true)
	tellsOf(t, row(near(2, 1, 6, 4)), k, none, false)
	tellsOf(t, row(near(1, 3, 1, 1), near(3, 2, 1, 1)), k, none, false)
	tellsOf(t, row(near(1, 2, 3, 2), near(1, 2, 3, 2)), k, of(3, 2), true)
	tellsOf(t, row(near(1, 2, 3, 2), near(1, 2, 5, 4)), k, of(5, 4), true)
	tellsOf(t, row(near(1, 2, 5, 4), near(1, 2, 3, 2)), k, of(3, 2), true)
	tellsOf(t, row(near(1, 2, 9, 1), near(1, 2, 1, 9), near(1, 2, 3, 2)), k, of(3, 2), true)
	tellsOf(t, row(near(1, 2, 9, 1), near(2, 1, 3, 2), near(1, 2, 1, 9), near(1, 3, 5, 2)), k, of(1, 9), true)
	for at := range 2000 {
		l := slices.Repeat(row(near(2, 1, 1, 1)), 2000)
		l[at] = near(1, 2, at+1, 7)
		if r, ok := Find(l, k); r != of(at+1, 7) || !ok {
			t.Fatalf("Find of the one at %d: %v, %v", at, r, ok)
		}
		l[at/2] = near(1, 2, 1, 8)
		if r, ok := Find(l, k); at > 0 && (r != of(at+1, 7) || !ok) {
			t.Fatalf("Find of the ones at %d and %d: %v, %v", at/2, at, r, ok)
		}
	}
	l := many(4000)
	for at, r := range l {
		if is, ok := Find(l, r); is != r.Ratio || !ok {
			t.Fatalf("Find of many, the one at %d: %v, %v", at, is, ok)
		}
	}
}

// P21.2: keys that differ from a rate's in just one part of the four, by little, or so that they look like it, if bits are cut off.
func TestFindParts(t *testing.T) {
	r := rt(2, 3, 1, 5, 7, 8)
	tellsOf(t, row(r), r, of(7, 8), true)
	for _, by := range append(far(), 1, 2, 4, 8) {
		for _, k := range row(rt(2+by, 3, 1, 5, 9, 4), rt(2, 3+by, 1, 5, 9, 4), rt(2, 3, 1+by, 5, 9, 4), rt(2, 3, 1, 5+by, 9, 4)) {
			tellsOf(t, row(r), k, api.Ratio{}, false)
			tellsOf(t, row(k), r, api.Ratio{}, false)
			for _, l := range [][]api.Rate{row(r, k), row(k, r)} {
				tellsOf(t, l, r, of(7, 8), true)
				tellsOf(t, l, k, of(9, 4), true)
			}
		}
	}
	// each part stands for itself: those with the same numbers in other places are others
	for _, k := range row(ask(1, 2, 3, 0), ask(1, 2, 0, 3), ask(1, 3, 2, 0), ask(2, 1, 3, 0), ask(3, 2, 1, 0), ask(0, 1, 2, 3)) {
		l := row(rt(1, 2, 3, 0, 1, 1), rt(1, 2, 0, 3, 2, 1), rt(1, 3, 2, 0, 3, 1), rt(2, 1, 3, 0, 4, 1), rt(3, 2, 1, 0, 5, 1), rt(0, 1, 2, 3, 6, 1))
		if r, ok := Find(l, k); !ok || !hasKey(l[r.Num-1], k) {
			t.Errorf("Find of %v: %v, %v", k, r, ok)
		}
	}
}

// P21.2: rates and keys that may not be are found like any others, and their Ratio is told as it stands.
func TestFindOdd(t *testing.T) {
	numbers := append(far(), 0, 1, 8, 9, 23, 24)
	for _, n := range numbers {
		for _, r := range row(near(n, 2, 3, 4), near(2, n, 3, 4), near(n, n, 3, 4), rt(1, 2, n, 0, 3, 4), rt(1, 2, 1, n, 3, 4), rt(n, n, n, n, 3, 4)) {
			tellsOf(t, row(near(-9, -9, 1, 1), r, near(-9, -9, 1, 1)), r, of(3, 4), true)
			tellsOf(t, row(near(-9, -9, 1, 1)), r, api.Ratio{}, false)
		}
	}
	for _, wrong := range wrongRatios() {
		r := rt(1, 2, 1, 0, wrong.Num, wrong.Den)
		tellsOf(t, row(r), r, wrong, true)
		tellsOf(t, row(near(1, 2, 1, 1), r), r, wrong, true)
		tellsOf(t, row(r, near(1, 2, 1, 1)), r, of(1, 1), true)
	}
	tellsOf(t, make([]api.Rate, 3), api.Rate{}, api.Ratio{}, true)
	tellsOf(t, make([]api.Rate, 3), near(1, 2, 0, 0), api.Ratio{}, false)
}

// setsTo looks at whether Set tells a row, written out; and what the model tells.
func setsTo(t *testing.T, l []api.Rate, r api.Rate, want []api.Rate) {
	t.Helper()
	if out, e := Set(l, r); e != api.OK || !slices.Equal(out, want) {
		t.Errorf("Set(%v, %v): %v, %v; not %v", show(l), r, show(out), e, show(want))
	}
	sets(t, l, r)
}

// setsNone looks at whether Set tells an error, written out, and no row; and what the model tells.
func setsNone(t *testing.T, l []api.Rate, r api.Rate, want api.Errno) {
	t.Helper()
	if out, e := Set(l, r); e != want || len(out) != 0 {
		t.Errorf("Set(%v, %v): %v, %v; not %v", show(l), r, show(out), e, want)
	}
	sets(t, l, r)
}

// P21.3: what Set tells of few rates, written out: a new key goes behind all, of a key that several have the last one alone is another one, at its place.
func TestSet(t *testing.T) {
	a, b, c := near(1, 2, 3, 2), near(2, 1, 4, 1), rt(1, 2, 1, 5, 7, 1)
	x, y := near(1, 2, 8, 9), near(2, 3, 6, 4)
	setsTo(t, nil, a, row(a))
	setsTo(t, row(), a, row(a))
	setsTo(t, row(a), a, row(a))
	setsTo(t, row(a), b, row(a, b))
	setsTo(t, row(a), x, row(x))
	setsTo(t, row(a, b, c), x, row(x, b, c))
	setsTo(t, row(b, a, c), x, row(b, x, c))
	setsTo(t, row(b, c, a), x, row(b, c, x))
	setsTo(t, row(a, a), x, row(a, x))
	setsTo(t, row(a, b, a, c), x, row(a, b, x, c))
	setsTo(t, row(a, b, a, c, a), x, row(a, b, a, c, x))
	setsTo(t, row(a, b, c), y, row(a, b, c, y))
	setsTo(t, row(c, b, a), rt(1, 2, 2, 0, 1, 1), row(c, b, a, rt(1, 2, 2, 0, 1, 1)))
	setsTo(t, row(c, b, a), rt(1, 2, 1, 1, 1, 1), row(c, b, a, rt(1, 2, 1, 1, 1, 1)))
	setsTo(t, row(c, b, a), near(1, 3, 1, 1), row(c, b, a, near(1, 3, 1, 1)))
	setsTo(t, row(c, b, a), near(3, 2, 1, 1), row(c, b, a, near(3, 2, 1, 1)))
}

// P21.3: rows of each length about the limit: with a new key, with one that one rate has, and with one that several have.
func TestSetHowMany(t *testing.T) {
	strange := many(4032)[4031] // its key is that of none ahead of it
	for _, count := range []int{0, 1, 2, 1000, 1998, 1999} {
		setsTo(t, many(count), strange, append(many(count), strange))
	}
	for _, count := range []int{2000, 2001, 2002, 4000} {
		setsNone(t, many(count), strange, api.ErrFull)
		setsNone(t, slices.Repeat(row(near(1, 2, 1, 1)), count), strange, api.ErrFull)
		setsNone(t, make([]api.Rate, count), strange, api.ErrFull)
	}
	for _, count := range []int{1, 2, 1000, 1999, 2000, 2001, 4000} {
		x := near(1, 2, 11, 13)
		for _, at := range []int{0, count / 2, count - 1} {
			l := slices.Repeat(row(near(2, 1, 1, 2)), count)
			l[at] = near(1, 2, 1, 1)
			setsTo(t, l, x, with(l, x, at))
			l[at/2], l[at/3] = near(1, 2, 1, 5), near(1, 2, 1, 6)
			l[at] = near(1, 2, 1, 1)
			setsTo(t, l, x, with(l, x, at))
		}
		same := slices.Repeat(row(near(1, 2, 1, 1)), count)
		setsTo(t, same, x, with(same, x, count-1))
	}
}

// P21.3: each error of the rate itself, the one that is named first of several, ahead of ErrFull; to any row, also such as have its key.
func TestSetErrors(t *testing.T) {
	for _, x := range append(oneFaults(), severalFaults()...) {
		for _, l := range [][]api.Rate{nil, row(near(1, 2, 1, 1)), row(x.r), row(near(1, 2, 1, 1), x.r, x.r), many(1999), many(2000), many(2001), slices.Repeat(row(x.r), 2000), slices.Repeat(row(x.r), 2001)} {
			setsNone(t, l, x.r, x.e)
		}
	}
}

// P21.3: rates that may not be are not looked at: they stay as they are, and count.
func TestSetToOdd(t *testing.T) {
	good := near(1, 2, 5, 7)
	for _, x := range append(oneFaults(), severalFaults()...) {
		out := row(x.r, good)
		if hasKey(x.r, good) { // its Ratio alone is wrong
			out = row(good)
		}
		setsTo(t, row(x.r), good, out)
	}
	for _, wrong := range wrongRatios() {
		r := near(1, 2, wrong.Num, wrong.Den)
		setsTo(t, row(r, near(2, 1, 1, 1)), good, row(good, near(2, 1, 1, 1)))
		setsTo(t, row(r, r), good, row(r, good))
		setsTo(t, row(near(1, 2, 1, 1), r), good, row(near(1, 2, 1, 1), good))
	}
	setsTo(t, make([]api.Rate, 1999), good, append(make([]api.Rate, 1999), good))
}

// P21.3: rows that are set from the same one, with much spare room, do not touch one another, nor it, nor its spare room; what becomes of it does not touch them.
func TestSetToTheSame(t *testing.T) {
	base := append(make([]api.Rate, 0, 64), near(1, 2, 1, 1), near(2, 1, 2, 1), near(1, 3, 3, 1))
	whole := base[:64]
	was := slices.Clone(whole)
	var outs, wants [][]api.Rate
	for _, r := range row(near(1, 2, 9, 1), near(1, 2, 9, 2), near(2, 1, 9, 3), near(1, 3, 9, 4), near(4, 5, 9, 5), near(4, 5, 9, 6), near(5, 4, 9, 7)) {
		out, e := Set(base, r)
		want, wantE := wantSet(base, r)
		if e != wantE {
			t.Fatalf("Set(%v, %v): %v", base, r, e)
		}
		outs, wants = append(outs, out), append(wants, want)
	}
	if !slices.Equal(whole, was) {
		t.Fatalf("the row that came in is %v", whole)
	}
	spoil(base, api.Rate{From: -99})
	for i, out := range outs {
		if !slices.Equal(out, wants[i]) {
			t.Fatalf("what was told is %v, not %v", out, wants[i])
		}
		spoil(out, api.Rate{From: 99})
	}
}

// crossing is a row, a key, and what Cross tells, written out.
type crossing struct {
	l    []api.Rate
	k    api.Rate
	want api.Ratio
	ok   bool
}

func (x crossing) look(t *testing.T) {
	t.Helper()
	for _, odd := range []api.Ratio{{}, of(1, 1), of(-1, least), x.want, of(2, 4)} {
		x.k.Ratio = odd
		if r, ok := Cross(x.l, x.k); r != x.want || ok != x.ok {
			t.Errorf("Cross(%v, %v): %v, %v; not %v, %v", show(x.l), x.k, r, ok, x.want, x.ok)
		}
	}
	crosses(t, x.l, x.k)
}

func crossesTo(t *testing.T, l []api.Rate, k api.Rate, num, den int) {
	t.Helper()
	crossing{l, k, of(num, den), true}.look(t)
}

func crossesNone(t *testing.T, l []api.Rate, k api.Rate) {
	t.Helper()
	crossing{l, k, api.Ratio{}, false}.look(t)
}

// P21.4: straight, turned round, and by a third currency, each ahead of those behind; what is straight is told as it stands, the others in lowest terms.
func TestCross(t *testing.T) {
	k := ask(1, 2, 1, 0)
	crossesNone(t, nil, k)
	crossesNone(t, row(), k)
	crossesTo(t, row(near(1, 2, 6, 4)), k, 6, 4)
	crossesTo(t, row(near(2, 1, 6, 4)), k, 2, 3)
	crossesTo(t, row(near(1, 2, 6, 4), near(2, 1, 9, 1)), k, 6, 4)
	crossesTo(t, row(near(2, 1, 9, 1), near(1, 2, 6, 4)), k, 6, 4)
	crossesTo(t, row(near(2, 1, 9, 1), near(2, 1, 6, 4)), k, 2, 3)                   // the last one
	crossesTo(t, row(near(1, 2, 9, 1), near(1, 2, 6, 4), near(2, 1, 5, 1)), k, 6, 4) // the last one
	// by 3, all four ways of two legs
	crossesTo(t, row(near(1, 3, 6, 4), near(3, 2, 10, 6)), k, 5, 2)
	crossesTo(t, row(near(1, 3, 6, 4), near(2, 3, 10, 6)), k, 9, 10)
	crossesTo(t, row(near(3, 1, 6, 4), near(3, 2, 10, 6)), k, 10, 9)
	crossesTo(t, row(near(3, 1, 6, 4), near(2, 3, 10, 6)), k, 2, 5)
	crossesTo(t, row(near(2, 3, 10, 6), near(3, 1, 6, 4)), k, 2, 5)
	crossesTo(t, row(near(1, 3, 3, 1), near(1, 3, 6, 4), near(3, 2, 5, 1), near(3, 2, 10, 6)), k, 5, 2) // the last ones
	// the chapter's example
	crossesTo(t, row(near(1, 2, 3, 2), near(3, 2, 1, 2)), ask(1, 3, 1, 0), 3, 1)
	crossesTo(t, row(near(1, 2, 3, 2), near(3, 2, 1, 2)), ask(3, 1, 1, 0), 1, 3)
	// straight and turned ahead of third ones, wherever they stand
	third := row(near(1, 3, 7, 1), near(3, 2, 11, 1))
	crossesTo(t, slices.Concat(third, row(near(1, 2, 6, 4))), k, 6, 4)
	crossesTo(t, slices.Concat(row(near(1, 2, 6, 4)), third), k, 6, 4)
	crossesTo(t, slices.Concat(third, row(near(2, 1, 6, 4))), k, 2, 3)
	crossesTo(t, slices.Concat(row(near(2, 1, 6, 4)), third), k, 2, 3)
	// a leg's straight one ahead of its turned one
	crossesTo(t, slices.Concat(third, row(near(3, 1, 5, 1), near(2, 3, 13, 1))), k, 77, 1)
	crossesTo(t, slices.Concat(row(near(3, 1, 5, 1), near(2, 3, 13, 1)), third), k, 77, 1)
	crossesTo(t, row(near(1, 3, 7, 1), near(3, 1, 5, 1), near(2, 3, 13, 1)), k, 7, 13)
	crossesTo(t, row(near(3, 1, 5, 1), near(3, 2, 11, 1), near(2, 3, 13, 1)), k, 11, 5)
	// one leg alone tells nothing, nor do two that are not of one currency
	crossesNone(t, third[:1], k)
	crossesNone(t, third[1:], k)
	crossesNone(t, row(near(3, 1, 7, 1)), k)
	crossesNone(t, row(near(2, 3, 7, 1)), k)
	crossesNone(t, row(near(1, 3, 7, 1), near(3, 1, 7, 1), near(4, 2, 7, 1), near(2, 4, 7, 1)), k)
	crossesNone(t, row(near(1, 3, 7, 1), near(3, 4, 7, 1), near(4, 2, 7, 1)), k) // by two currencies it does not go
	crossesNone(t, row(near(3, 4, 7, 1), near(4, 5, 7, 1)), k)
}

// P21.4: each third currency from 1 to 8 is gone through, of several the least one is taken; 0, 9 and others are not.
func TestThirdCurrencies(t *testing.T) {
	for from := 1; from <= 8; from++ {
		for to := 1; to <= 8; to++ {
			var l []api.Rate
			for c := 8; c >= 1; c-- { // the least one stands behind the others
				if c == from || c == to {
					continue
				}
				one, two := near(from, c, c, 1), near(c, to, 100, 1)
				crossesTo(t, row(one, two), ask(from, to, 1, 0), 100*c, 1)
				if from != to { // else this row tells it straight
					crossesNone(t, row(near(from, from, 3, 1), near(to, to, 5, 1)), ask(from, to, 1, 0))
				}
				l = append(l, one, two)
				crossesTo(t, l, ask(from, to, 1, 0), 100*c, 1)
				rising := slices.Clone(l)
				slices.Reverse(rising)
				crossesTo(t, rising, ask(from, to, 1, 0), 100*c, 1)
			}
			for _, c := range append(far(), 0, 9, 10, 16, 64) {
				crossesNone(t, row(near(from, c, 2, 1), near(c, to, 3, 1)), ask(from, to, 1, 0))
				crossesNone(t, row(near(c, from, 2, 1), near(to, c, 3, 1)), ask(from, to, 1, 0))
			}
		}
	}
}

// P21.4: From and To the same one: straight, or by another currency; there is no rate of 1 of 1 by itself.
func TestCrossToItself(t *testing.T) {
	k := ask(5, 5, 1, 0)
	crossesNone(t, nil, k)
	crossesNone(t, row(near(1, 2, 1, 1), near(2, 1, 1, 1)), k)
	crossesTo(t, row(near(5, 5, 6, 4)), k, 6, 4)
	crossesTo(t, row(near(5, 3, 6, 4)), k, 1, 1)
	crossesTo(t, row(near(3, 5, 6, 4)), k, 1, 1)
	crossesTo(t, row(near(3, 5, 6, 4), near(5, 3, 10, 1)), k, 15, 1)
	crossesTo(t, row(near(3, 5, 6, 4), near(5, 3, 10, 1), near(5, 5, 0, 1)), k, 0, 1)
	crossesTo(t, row(near(5, 8, 2, 1), near(8, 5, 3, 1), near(5, 1, 5, 1), near(1, 5, 7, 1)), k, 35, 1)
}

// P21.4: keys whose currencies are none, and rates of such, are told like any others.
func TestCrossFarKeys(t *testing.T) {
	for _, n := range append(far(), 0, 9, 10) {
		for _, m := range []int{1, 8, 0, 9, least, most, -1} {
			if n == m {
				continue
			}
			k := ask(n, m, 1, 0)
			crossesNone(t, nil, k)
			crossesNone(t, row(near(1, 2, 1, 1), near(2, 3, 1, 1)), k)
			crossesTo(t, row(near(n, m, 6, 4)), k, 6, 4)
			crossesTo(t, row(near(m, n, 6, 4)), k, 2, 3)
			crossesTo(t, row(near(n, 3, 6, 4), near(m, 3, 1, 5)), k, 15, 2)
			crossesTo(t, row(near(3, n, 6, 4), near(3, m, 1, 5)), k, 2, 15)
			crossesTo(t, row(near(n, 7, 3, 1), near(7, m, 1, 1), near(n, 2, 5, 1), near(2, m, 1, 1)), k, 5, 1)
			crossesTo(t, row(near(n, 4, 2, 1), near(4, n, 3, 1)), ask(n, n, 1, 0), 6, 1)
		}
	}
}

// P21.4: rates of another Kind or Period are no legs, and tell nothing straight or turned; Kinds and Periods that are none are told like any others.
func TestCrossOtherKinds(t *testing.T) {
	numbers := append(far(), 0, 1, 2, 3, 4, 23, 24)
	for _, kind := range numbers {
		for _, period := range numbers {
			k := ask(1, 2, kind, period)
			in := func(r api.Rate) api.Rate {
				r.Kind, r.Period = kind, period
				return r
			}
			crossesTo(t, row(in(near(1, 2, 6, 4))), k, 6, 4)
			crossesTo(t, row(in(near(2, 1, 6, 4))), k, 2, 3)
			crossesTo(t, row(in(near(1, 3, 3, 1)), in(near(2, 3, 2, 1))), k, 3, 2)
			for _, by := range []int{1, -1, 1 << 32} {
				for _, other := range []api.Rate{ask(0, 0, kind+by, period), ask(0, 0, kind, period+by)} {
					out := func(r api.Rate) api.Rate {
						r.Kind, r.Period = other.Kind, other.Period
						return r
					}
					crossesNone(t, row(out(near(1, 2, 6, 4))), k)
					crossesNone(t, row(out(near(2, 1, 6, 4))), k)
					crossesNone(t, row(out(near(1, 3, 3, 1)), in(near(3, 2, 2, 1))), k)
					crossesNone(t, row(in(near(1, 3, 3, 1)), out(near(3, 2, 2, 1))), k)
					crossesNone(t, row(out(near(3, 1, 3, 1)), in(near(2, 3, 2, 1))), k)
					crossesTo(t, row(out(near(1, 2, 5, 1)), out(near(2, 1, 5, 1)), in(near(1, 4, 7, 1)), in(near(4, 2, 1, 2)), out(near(1, 3, 3, 1)), in(near(3, 2, 2, 1))), k, 7, 2)
				}
			}
		}
	}
}

// P21.4: a Ratio that may not be is told straight as it stands; turned, and as a leg, it tells nothing, and what stands behind that does.
func TestCrossWrongRatios(t *testing.T) {
	k := ask(1, 2, 1, 0)
	third := row(near(1, 5, 7, 1), near(5, 2, 1, 3))
	for _, x := range wrongRatios() {
		wrong := func(from, to int) api.Rate { return near(from, to, x.Num, x.Den) }
		crossing{row(wrong(1, 2)), k, x, true}.look(t)
		crossing{row(wrong(1, 2), near(2, 1, 3, 1)), k, x, true}.look(t)
		crossing{slices.Concat(row(wrong(1, 2)), third), k, x, true}.look(t)
		crossing{row(near(1, 2, 5, 1), wrong(1, 2)), k, x, true}.look(t)
		crossesTo(t, row(wrong(1, 2), near(1, 2, 5, 1)), k, 5, 1)
		// turned round
		crossesNone(t, row(wrong(2, 1)), k)
		crossesNone(t, row(near(2, 1, 5, 1), wrong(2, 1)), k)
		crossesTo(t, row(wrong(2, 1), near(2, 1, 5, 1)), k, 1, 5)
		crossesTo(t, slices.Concat(row(wrong(2, 1)), third), k, 7, 3)
		crossesTo(t, slices.Concat(third, row(wrong(2, 1))), k, 7, 3)
		// by 3, either leg, straight or turned round; then by 5
		for _, legs := range [][]api.Rate{
			row(wrong(1, 3), near(3, 2, 9, 1)),
			row(wrong(3, 1), near(3, 2, 9, 1)),
			row(near(1, 3, 9, 1), wrong(3, 2)),
			row(near(1, 3, 9, 1), wrong(2, 3)),
			row(wrong(1, 3), wrong(3, 2)),
			row(wrong(3, 1), wrong(2, 3)),
			row(wrong(1, 3), near(3, 1, 2, 1), near(3, 2, 9, 1)), // the leg is told straight: the other way is not asked
			row(near(1, 3, 9, 1), wrong(3, 2), near(2, 3, 2, 1)),
			row(wrong(3, 1), near(2, 3, 9, 1)),
		} {
			crossesNone(t, legs, k)
			crossesTo(t, slices.Concat(legs, third), k, 7, 3)
			crossesTo(t, slices.Concat(third, legs), k, 7, 3)
		}
		// a leg's straight one that may be, ahead of a turned one that may not
		crossesTo(t, row(near(1, 3, 4, 1), wrong(3, 1), near(3, 2, 9, 1), wrong(2, 3)), k, 36, 1)
	}
}

// P21.4: legs that may be, but have no Times (a number of it is above 10^12), tell nothing: a later currency does.
func TestCrossTooFar(t *testing.T) {
	k := ask(1, 2, 1, 0)
	third := row(near(1, 5, 7, 1), near(5, 2, 1, 3))
	for _, legs := range [][]api.Rate{
		row(near(1, 3, top, 1), near(3, 2, 2, 1)),
		row(near(1, 3, 2, 1), near(3, 2, top, 1)),
		row(near(1, 3, 1, top), near(3, 2, 1, 2)),
		row(near(1, 3, top, 1), near(3, 2, top, 1)),
		row(near(1, 3, 1, top), near(3, 2, 1, top)),
		row(near(3, 1, 1, top), near(3, 2, 2, 1)),
		row(near(3, 1, top, 1), near(2, 3, 2, 1)),
		row(near(1, 3, top, 1), near(2, 3, 1, 2)),
		row(near(1, 3, top/2+1, 1), near(3, 2, 2, 1)),
		row(near(1, 3, 3, top), near(3, 2, 2, 7)),
		row(near(1, 3, 1<<32, 1), near(3, 2, 1<<32, 1)), // in one word it would wrap round to 0
	} {
		crossesNone(t, legs, k)
		crossesTo(t, slices.Concat(legs, third), k, 7, 3)
		crossesTo(t, slices.Concat(third, legs), k, 7, 3)
		crossesTo(t, slices.Concat(legs, row(near(1, 4, top, 1), near(4, 2, top, 1)), third), k, 7, 3)
	}
	// such as have one, as what they share is taken off
	crossesTo(t, row(near(1, 3, 1000001, 999999), near(3, 2, 1000003, 2*1000001)), k, 1000003, 2*999999)
	crossesTo(t, row(near(1, 3, top, 1), near(3, 2, 1, top)), k, 1, 1)
	crossesTo(t, row(near(1, 3, top/2, 1), near(3, 2, 2, 1)), k, top, 1)
	crossesTo(t, row(near(1, 3, top, 3), near(3, 2, 3, top)), k, 1, 1)
	crossesTo(t, row(near(1, 3, top, 1), near(3, 2, 2, 2)), k, top, 1)
	crossesTo(t, row(near(2, 1, top, 1)), k, 1, top)
	crossesTo(t, row(near(2, 1, 1, top)), k, top, 1)
	crossesTo(t, row(near(1, 2, top, top)), k, top, top)
}

// knowsOf looks at whether Known tells these, written out, whatever Period and Ratio the key has; and what the model tells.
func knowsOf(t *testing.T, l []api.Rate, from, to, kind int, want ...int) {
	t.Helper()
	for _, period := range append(far(), 0, 1, 5, 23, 24) {
		for _, odd := range []api.Ratio{{}, of(3, 2), of(-1, most)} {
			k := rt(from, to, kind, period, odd.Num, odd.Den)
			if known := Known(l, k); !slices.Equal(known, want) {
				t.Errorf("Known(%v, %v): %v, not %v", show(l), k, known, want)
			}
		}
	}
	knows(t, l, ask(from, to, kind, 3))
}

// P21.4: what Known tells, written out: rising, each once, also Periods that are none, also of rates that may not be.
func TestKnown(t *testing.T) {
	in := func(periods ...int) []api.Rate {
		var l []api.Rate
		for _, period := range periods {
			l = append(l, rt(1, 2, 1, period, 3, 2))
		}
		return l
	}
	knowsOf(t, nil, 1, 2, 1)
	knowsOf(t, row(), 1, 2, 1)
	knowsOf(t, in(7), 1, 2, 1, 7)
	knowsOf(t, in(0, 23), 1, 2, 1, 0, 23)
	knowsOf(t, in(23, 0), 1, 2, 1, 0, 23)
	knowsOf(t, in(5, 5), 1, 2, 1, 5)
	knowsOf(t, in(5, 1, 5, 0, 1, 5), 1, 2, 1, 0, 1, 5)
	knowsOf(t, in(9, 8, 7, 10, 6, 11, 100), 1, 2, 1, 6, 7, 8, 9, 10, 11, 100)
	knowsOf(t, in(24, -1, most, 3, least, 0, 23), 1, 2, 1, least, -1, 0, 3, 23, 24, most)
	knowsOf(t, in(most, least, most, least), 1, 2, 1, least, most)
	knowsOf(t, in(1<<32, 0, -1<<32), 1, 2, 1, -1<<32, 0, 1<<32)
	// straight alone, of just these currencies and that Kind
	knowsOf(t, in(3, 4), 2, 1, 1)
	knowsOf(t, in(3, 4), 1, 2, 2)
	knowsOf(t, in(3, 4), 1, 3, 1)
	knowsOf(t, in(3, 4), 3, 2, 1)
	knowsOf(t, row(rt(1, 3, 1, 4, 1, 1), rt(3, 2, 1, 4, 1, 1), rt(2, 1, 1, 5, 1, 1), rt(1, 2, 1, 6, 1, 1), rt(1, 2, 2, 7, 1, 1)), 1, 2, 1, 6)
	// rates that may not be
	knowsOf(t, row(rt(1, 2, 1, 4, 0, 1), rt(1, 2, 1, 2, -1, -1), rt(1, 2, 1, 4, 1, 1)), 1, 2, 1, 2, 4)
	knowsOf(t, row(rt(0, 0, 0, 4, 0, 1), rt(0, 0, 0, -3, 0, 1)), 0, 0, 0, -3, 4)
	knowsOf(t, row(rt(5, 5, 9, 4, 1, 1), rt(5, 5, 9, 3, 1, 1)), 5, 5, 9, 3, 4)
	knowsOf(t, make([]api.Rate, 3), 0, 0, 0, 0)
	for _, n := range append(far(), 9) {
		knowsOf(t, row(rt(n, 2, 1, 4, 1, 1), rt(1, n, 1, 5, 1, 1), rt(1, 2, n, 6, 1, 1)), n, 2, 1, 4)
		knowsOf(t, row(rt(n, 2, 1, 4, 1, 1), rt(1, n, 1, 5, 1, 1), rt(1, 2, n, 6, 1, 1)), 1, n, 1, 5)
		knowsOf(t, row(rt(n, 2, 1, 4, 1, 1), rt(1, n, 1, 5, 1, 1), rt(1, 2, n, 6, 1, 1)), 1, 2, n, 6)
		knowsOf(t, row(rt(n, 2, 1, 4, 1, 1), rt(1, n, 1, 5, 1, 1), rt(1, 2, n, 6, 1, 1)), 1, 2, 1)
	}
}

// P21.2 to P21.4: all rows of up to 3 rates of a few kinds, with all that may be set and asked.
func TestAllSmallRows(t *testing.T) {
	some := row(near(1, 2, 6, 4), near(2, 1, 6, 4), near(1, 2, 0, 1), near(2, 3, 5, 3), near(3, 2, 2, 7), near(1, 3, top, 3), rt(1, 2, 2, 0, 4, 9), rt(1, 2, 1, 24, 4, 9), rt(3, 1, 1, -1, 8, 1), near(2, 2, 4, 6))
	asked := row(ask(1, 2, 1, 0), ask(2, 1, 1, 0), ask(1, 3, 1, 0), ask(3, 1, 1, 0), ask(2, 3, 1, 0), ask(2, 2, 1, 0), ask(3, 3, 1, 0), ask(1, 2, 2, 0), ask(2, 1, 1, 24), ask(1, 3, 1, -1))
	rows := [][]api.Rate{nil}
	for from := 0; from < len(rows); from++ {
		l := rows[from]
		for _, k := range asked {
			tellsAll(t, l, k)
		}
		checks(t, l)
		for _, r := range some {
			sets(t, l, r)
			if len(l) < 3 {
				rows = append(rows, append(slices.Clone(l), r))
			}
		}
	}
	if len(rows) != 1+10+100+1000 {
		t.Fatal(len(rows))
	}
}

// P21.4: between four currencies, each way there or not, all of them: each has a Ratio of its own, so that no other one can be told for it.
func TestAllWays(t *testing.T) {
	primes := []int{2, 3, 5, 7, 11, 13, 17, 19, 23, 29, 31, 37, 41, 43, 47, 53, 59, 61, 67, 71, 73, 79, 83, 89}
	currencies := []int{1, 4, 7, 8}
	var all []api.Rate
	for _, from := range currencies {
		for _, to := range currencies {
			if i := len(all); from != to {
				all = append(all, near(from, to, primes[2*i], primes[2*i+1]))
			}
		}
	}
	slices.Reverse(all) // the least ones stand behind the others
	for set := range 1 << len(all) {
		var l []api.Rate
		for i, r := range all {
			if set>>i&1 == 1 {
				l = append(l, r)
			}
		}
		for _, from := range currencies {
			for _, to := range currencies {
				crosses(t, l, ask(from, to, 1, 0))
			}
		}
	}
}

// P21.4: between three currencies each way is not there, or one of a few, which may not be, or are too great: all of them.
func TestAllWaysThatFail(t *testing.T) {
	ways := [][2]int{{1, 2}, {2, 1}, {1, 8}, {8, 1}, {2, 8}, {8, 2}}
	ratios := []api.Ratio{of(6, 4), of(0, 5), of(top, 1), of(1, top), of(3, -1)}
	count := 1
	for range ways {
		count *= len(ratios)
	}
	for set := range count {
		var l []api.Rate
		for i, left := 0, set; i < len(ways); i, left = i+1, left/len(ratios) {
			if at := left % len(ratios); at < len(ratios)-1 {
				l = append(l, near(ways[i][0], ways[i][1], ratios[at].Num, ratios[at].Den))
			}
		}
		for _, way := range ways {
			crosses(t, l, ask(way[0], way[1], 1, 0))
		}
		crosses(t, l, ask(2, 2, 1, 0))
	}
}

// drawnRatio is a Ratio that may be, or, if odd, now and then one that may not.
func drawnRatio(r *rand.Rand, odd bool) api.Ratio {
	if odd && r.Intn(6) == 0 {
		return wrongRatios()[r.Intn(len(wrongRatios()))]
	}
	n := func() int { return 1 + r.Intn(top)>>r.Intn(40) }
	return of(n(), n())
}

// drawnRate is a rate of few currencies, Kinds and Periods, so that many have one key.
func drawnRate(r *rand.Rand, currencies int, odd bool) api.Rate {
	from := 1 + r.Intn(currencies)
	to := 1 + (from+r.Intn(currencies-1))%currencies
	x := rt(from, to, 1+r.Intn(2), 22+r.Intn(2), 0, 0)
	x.Ratio = drawnRatio(r, odd)
	if odd && r.Intn(4) == 0 {
		n := append(far(), 0, 1, 9, 24)[r.Intn(len(far())+4)]
		for _, part := range []*int{&x.From, &x.To, &x.Kind, &x.Period} {
			if r.Intn(3) == 0 {
				*part = n
			}
		}
	}
	return x
}

// drawn draws so many rows, and hands each on. (The draw is the same each time.)
func drawn(count int, seed int64, odd bool, to func(r *rand.Rand, l []api.Rate, currencies int)) {
	r := rand.New(rand.NewSource(seed))
	for range count {
		currencies := 2 + r.Intn(7)
		var l []api.Rate
		for range r.Intn(1 + r.Intn(60)) {
			l = append(l, drawnRate(r, currencies, odd))
		}
		to(r, l, currencies)
	}
}

// P21.1 to P21.4: drawn calls, of rates that may be and of others.
func TestDrawn(t *testing.T) {
	for _, odd := range []bool{false, true} {
		drawn(2000, 21, odd, func(r *rand.Rand, l []api.Rate, currencies int) {
			checks(t, l)
			for range 10 {
				x := drawnRate(r, currencies, odd)
				sets(t, l, x)
				tellsAll(t, l, x)
			}
			if len(l) > 0 {
				x := l[r.Intn(len(l))]
				tellsAll(t, l, x)
				tellsAll(t, l, ask(x.To, x.From, x.Kind, x.Period))
			}
		})
	}
}

// P21.5: behind Set, Find tells the Ratio of that key, and of each other key what it told.
func TestSets(t *testing.T) {
	for _, odd := range []bool{false, true} {
		drawn(1500, 5, odd, func(r *rand.Rand, l []api.Rate, currencies int) {
			for range 5 {
				x := drawnRate(r, currencies, odd)
				out, e := Set(l, x)
				if _, want := Check(row(x)); e != want {
					t.Fatalf("Set(%v, %v): %v", l, x, e)
				}
				if e != api.OK {
					continue
				}
				if is, ok := Find(out, ask(x.From, x.To, x.Kind, x.Period)); is != x.Ratio || !ok {
					t.Fatalf("Set(%v, %v): %v, of which Find tells %v, %v", l, x, out, is, ok)
				}
				for _, k := range append(slices.Clone(l), drawnRate(r, currencies, odd), ask(x.To, x.From, x.Kind, x.Period)) {
					was, wasOk := Find(l, k)
					is, ok := Find(out, k)
					if !hasKey(k, x) && (is != was || ok != wasOk) {
						t.Fatalf("Set(%v, %v): of %v Find told %v, %v, and tells %v, %v", l, x, k, was, wasOk, is, ok)
					}
				}
				l = out
			}
		})
	}
}

// P21.6: of rates that may be what Find tells Cross does; of a key that may be, of which the one turned round is not told, Cross of that one is its Inverse.
func TestCrosses(t *testing.T) {
	drawn(3000, 6, false, func(r *rand.Rand, l []api.Rate, currencies int) {
		for range 10 {
			k := drawnRate(r, currencies, false)
			if len(l) > 0 && r.Intn(2) == 0 {
				k = l[r.Intn(len(l))]
			}
			is, ok := Find(l, k)
			if !ok {
				continue
			}
			if cross, ok := Cross(l, k); cross != is || !ok {
				t.Fatalf("%v: of %v Find tells %v, Cross %v, %v", l, k, is, cross, ok)
			}
			back := ask(k.To, k.From, k.Kind, k.Period)
			if _, ok := Find(l, back); ok {
				continue
			}
			want, e := ratio.Inverse(is)
			if cross, ok := Cross(l, back); cross != want || !ok || e != api.OK {
				t.Fatalf("%v: of %v Find tells %v, and of it turned round Cross %v, %v", l, k, is, cross, ok)
			}
		}
	})
}

// P21.3, P21.4: each answer is new memory: what is written over it changes neither the row that came in nor any later answer.
func TestNewMemory(t *testing.T) {
	l := row(near(1, 2, 3, 2), rt(1, 2, 1, 5, 7, 1), near(2, 3, 4, 1), near(1, 2, 5, 4))
	was := slices.Clone(l)
	for _, r := range row(near(1, 2, 1, 1), near(1, 3, 1, 1), near(2, 3, 4, 1)) {
		one, _ := Set(l, r)
		two, _ := Set(l, r)
		spoil(one, rt(-9, -9, -9, -9, -9, -9))
		want, _ := wantSet(was, r)
		if !slices.Equal(two, want) { // ahead of one more call, which might set it right again
			t.Fatalf("Set of %v, the first answer written over: %v, not %v", r, two, want)
		}
		three, _ := Set(l, r)
		if !slices.Equal(two, want) || !slices.Equal(three, want) {
			t.Fatalf("Set of %v anew, the first answer written over: %v, %v; not %v", r, two, three, want)
		}
	}
	k := ask(1, 2, 1, 0)
	one, two := Known(l, k), Known(l, k)
	spoil(one, -9)
	if !slices.Equal(two, []int{0, 5}) {
		t.Fatalf("Known, the first answer written over: %v", two)
	}
	if three := Known(l, k); !slices.Equal(two, []int{0, 5}) || !slices.Equal(three, []int{0, 5}) {
		t.Fatalf("Known anew, the first answer written over: %v, %v", two, three)
	}
	if !slices.Equal(l, was) {
		t.Fatalf("the row that came in is %v", l)
	}
}

// P21.1 to P21.4: nothing is kept: what is told of one row hangs on no call ahead of it, also if the row has become another one.
func TestNothingKept(t *testing.T) {
	l := row(near(1, 3, 3, 1), near(3, 2, 2, 1))
	k := ask(1, 2, 1, 0)
	for n := 1; n < 20; n++ {
		l[0].Ratio.Num = n
		crossesTo(t, l, k, 2*n, 1)
		l[1].From, l[0].To = n%6+3, n%6+3
		crossesTo(t, l, k, 2*n, 1)
		l[0].Period = n%2 - 1
		crosses(t, l, k)
		knowsOf(t, l, 1, n%6+3, 1, n%2-1)
		l[0].Period = 0
	}
}

// P21.1 to P21.4: rows of many rates end soon, also if the key, or each leg that is asked for, stands at their far end, or nowhere.
func TestLongRows(t *testing.T) {
	long := slices.Repeat(row(near(7, 6, 1, 1), near(1, 3, 5, 1), near(1, 4, 5, 1), rt(1, 2, 1, 9, 1, 1)), 1<<14)
	crossesNone(t, long, ask(1, 2, 1, 0))
	crossesNone(t, long, ask(5, 8, 1, 0))
	long[0] = near(8, 2, 3, 1)
	long[1] = near(1, 8, 2, 1)
	crossesTo(t, long, ask(1, 2, 1, 0), 6, 1)
	if known := Known(long, ask(1, 2, 1, 0)); !slices.Equal(known, []int{9}) {
		t.Fatalf("Known tells %d periods", len(known))
	}
	setsNone(t, long, near(1, 2, 1, 1), api.ErrFull)
	setsTo(t, long, near(1, 8, 9, 1), with(long, near(1, 8, 9, 1), 1))
}

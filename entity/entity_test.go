package entity

import (
	"math"
	"math/rand"
	"slices"
	"testing"

	"gavelkind/api"
)

const most, least = math.MaxInt, math.MinInt

// strangers are no currencies; some of them look like one, if bits are cut off.
func strangers() []int {
	return []int{0, 9, -1, 10, -2, -8, -9, 16, 40, 41, 255, 256, 257, 1<<8 + 8, 1<<16 + 1, 1<<31 + 1, 1 << 32, 1<<32 + 1, 1<<32 + 8, -1<<32 + 1, least, least + 1, least + 8, most - 1, most}
}

// row is so many entities, of which all have currencies, all eight of them, if there are enough.
func row(many int) []int {
	l := make([]int, many)
	for i := range l {
		l[i] = i*3%8 + 1
	}
	return l
}

// with is a row that has other numbers at some places.
func with(l []int, number int, places ...int) []int {
	l = slices.Clone(l)
	for _, at := range places {
		l[at] = number
	}
	return l
}

// lent is a row that is handed in, and how all of it was, its spare room, too.
type lent struct {
	whole, was []int
	many       int
}

func lend(l []int) lent {
	whole := slices.Concat(l, []int{3, -7, 0, 9})
	return lent{whole, slices.Clone(whole), len(l)}
}

func (l lent) row() []int { return l.whole[:l.many] }

// look looks at whether what was lent is as it was.
func (l lent) look(t *testing.T, call string) {
	t.Helper()
	if !slices.Equal(l.whole, l.was) {
		t.Fatalf("%s: of the row %v, and its spare room, it made %v", call, l.was, l.whole)
	}
}

// spoil writes over all of an answer, its spare room, too: that is its owner's to do.
func spoil(l []int) {
	l = l[:cap(l)]
	for i := range l {
		l[i] = -99
	}
}

// What has to be told, by the chapter's words.

func isCurrency(n int) bool { return slices.Contains([]int{1, 2, 3, 4, 5, 6, 7, 8}, n) }

func wantCheck(l []int) (int, api.Errno) {
	if len(l) > 40 {
		return 0, api.ErrFull
	}
	for at := range l {
		if !isCurrency(l[at]) {
			return at, api.ErrCurrency
		}
	}
	return len(l), api.OK
}

func wantCurrency(l []int, entity int) (int, api.Errno) {
	for at := range l {
		if entity == at+1 {
			return l[at], api.OK
		}
	}
	return 0, api.ErrEntity
}

func wantAdd(l []int, currency int) ([]int, api.Errno) {
	if !isCurrency(currency) {
		return nil, api.ErrCurrency
	}
	if len(l) >= 40 {
		return nil, api.ErrFull
	}
	return append(slices.Clone(l), currency), api.OK
}

func wantOf(l []int, currencies []int) []int {
	var of []int
	for entity := 1; entity <= len(l); entity++ {
		for _, currency := range currencies {
			if l[entity-1] == currency {
				of = append(of, entity)
				break
			}
		}
	}
	return of
}

// Calls, of which what is told is held against what has to be, and what was handed in against what it was.

func checks(t *testing.T, l []int) {
	t.Helper()
	in := lend(l)
	at, e := Check(in.row())
	if wantAt, want := wantCheck(l); at != wantAt || e != want {
		t.Fatalf("Check(%v): %d, %v; not %d, %v", l, at, e, wantAt, want)
	}
	in.look(t, "Check")
}

func tellsCurrency(t *testing.T, l []int, entity int) {
	t.Helper()
	in := lend(l)
	n, e := Currency(in.row(), entity)
	if wantN, want := wantCurrency(l, entity); n != wantN || e != want {
		t.Fatalf("Currency(%v, %d): %d, %v; not %d, %v", l, entity, n, e, wantN, want)
	}
	in.look(t, "Currency")
}

func adds(t *testing.T, l []int, currency int) {
	t.Helper()
	in := lend(l)
	out, e := Add(in.row(), currency)
	if wantOut, want := wantAdd(l, currency); !slices.Equal(out, wantOut) || e != want {
		t.Fatalf("Add(%v, %d): %v, %v; not %v, %v", l, currency, out, e, wantOut, want)
	}
	in.look(t, "Add")
	spoil(out)
	in.look(t, "Add, its answer written over")
}

func tellsOf(t *testing.T, l []int, currencies ...int) {
	t.Helper()
	in, asked := lend(l), lend(currencies)
	of := Of(in.row(), asked.row()...)
	if want := wantOf(l, currencies); !slices.Equal(of, want) {
		t.Fatalf("Of(%v, %v...): %v, not %v", l, currencies, of, want)
	}
	in.look(t, "Of")
	asked.look(t, "Of, as to the currencies")
	spoil(of)
	in.look(t, "Of, its answer written over")
	asked.look(t, "Of, its answer written over, as to the currencies")
}

// P17.1: what Check tells, written out: rows up to the limit and beyond it, and the first one of several that are no currencies.
func TestCheck(t *testing.T) {
	for _, x := range []struct {
		l  []int
		at int
		e  api.Errno
	}{
		{nil, 0, api.OK},
		{[]int{}, 0, api.OK},
		{[]int{1}, 1, api.OK},
		{[]int{8}, 1, api.OK},
		{[]int{1, 2, 3, 4, 5, 6, 7, 8}, 8, api.OK},
		{[]int{8, 1, 8, 1}, 4, api.OK},
		{row(39), 39, api.OK},
		{row(40), 40, api.OK},
		{row(41), 0, api.ErrFull},
		{row(42), 0, api.ErrFull},
		{row(80), 0, api.ErrFull},
		{row(256), 0, api.ErrFull},
		{row(1 << 16), 0, api.ErrFull},
		{with(row(41), 0, 0), 0, api.ErrFull},
		{with(row(41), 9, 7), 0, api.ErrFull},
		{with(row(41), -1, 40), 0, api.ErrFull},
		{with(row(41), 0, 3, 20, 40), 0, api.ErrFull},
		{make([]int, 41), 0, api.ErrFull},
		{[]int{0}, 0, api.ErrCurrency},
		{[]int{9}, 0, api.ErrCurrency},
		{[]int{-1}, 0, api.ErrCurrency},
		{[]int{least}, 0, api.ErrCurrency},
		{[]int{most}, 0, api.ErrCurrency},
		{[]int{1, 8, 0}, 2, api.ErrCurrency},
		{[]int{9, 1, 8}, 0, api.ErrCurrency},
		{[]int{1, 9, 0, 8}, 1, api.ErrCurrency},
		{[]int{1, 0, 9, 8}, 1, api.ErrCurrency},
		{[]int{8, 1, least, most}, 2, api.ErrCurrency},
		{with(row(39), 9, 38), 38, api.ErrCurrency},
		{with(row(40), 0, 0), 0, api.ErrCurrency},
		{with(row(40), 9, 39), 39, api.ErrCurrency},
		{with(row(40), -1, 17, 18, 39), 17, api.ErrCurrency},
		{make([]int, 40), 0, api.ErrCurrency},
	} {
		if at, e := Check(x.l); at != x.at || e != x.e {
			t.Errorf("Check(%v): %d, %v; not %d, %v", x.l, at, e, x.at, x.e)
		}
		checks(t, x.l)
	}
}

// P17.1: each number that is no currency, at each place of rows of each length; from the limit on the place plays no part.
func TestCheckEachPlace(t *testing.T) {
	for many := range 45 {
		checks(t, row(many))
		for at := range many {
			for _, n := range strangers() {
				l := with(row(many), n, at)
				checks(t, l)
				checks(t, with(l, 0, many-1))
				checks(t, with(l, 9, many/2))
			}
			for n := range 12 {
				checks(t, with(row(many), n, at))
			}
		}
	}
}

// P17.1: what Currency tells, written out: the first and the last entity, those on either side of them, and a number that is no currency, which is told as it is.
func TestCurrency(t *testing.T) {
	odd := []int{3, 0, 9, -1, least, most, 8}
	for _, x := range []struct {
		l              []int
		entity, number int
		e              api.Errno
	}{
		{[]int{2, 1, 2}, 1, 2, api.OK},
		{[]int{2, 1, 2}, 2, 1, api.OK},
		{[]int{2, 1, 2}, 3, 2, api.OK},
		{[]int{2, 1, 2}, 0, 0, api.ErrEntity},
		{[]int{2, 1, 2}, -1, 0, api.ErrEntity},
		{[]int{2, 1, 2}, -3, 0, api.ErrEntity},
		{[]int{2, 1, 2}, 4, 0, api.ErrEntity},
		{[]int{2, 1, 2}, 5, 0, api.ErrEntity},
		{[]int{2, 1, 2}, least, 0, api.ErrEntity},
		{[]int{2, 1, 2}, least + 1, 0, api.ErrEntity},
		{[]int{2, 1, 2}, most, 0, api.ErrEntity},
		{[]int{2, 1, 2}, 1 << 32, 0, api.ErrEntity},
		{[]int{2, 1, 2}, 1<<32 + 1, 0, api.ErrEntity},
		{[]int{2, 1, 2}, -1<<32 + 1, 0, api.ErrEntity},
		{[]int{7}, 1, 7, api.OK},
		{[]int{7}, 0, 0, api.ErrEntity},
		{[]int{7}, 2, 0, api.ErrEntity},
		{nil, 0, 0, api.ErrEntity},
		{nil, 1, 0, api.ErrEntity},
		{nil, -1, 0, api.ErrEntity},
		{nil, least, 0, api.ErrEntity},
		{nil, most, 0, api.ErrEntity},
		{[]int{}, 0, 0, api.ErrEntity},
		{[]int{}, 1, 0, api.ErrEntity},
		{odd, 1, 3, api.OK},
		{odd, 2, 0, api.OK},
		{odd, 3, 9, api.OK},
		{odd, 4, -1, api.OK},
		{odd, 5, least, api.OK},
		{odd, 6, most, api.OK},
		{odd, 7, 8, api.OK},
		{odd, 8, 0, api.ErrEntity},
		{with(row(40), 5, 39), 40, 5, api.OK},
		{row(40), 41, 0, api.ErrEntity},
		{with(row(41), 6, 40), 41, 6, api.OK},
		{row(41), 42, 0, api.ErrEntity},
		{with(row(300), 4, 299), 300, 4, api.OK},
		{with(row(300), 4, 255), 256, 4, api.OK},
		{row(300), 301, 0, api.ErrEntity},
	} {
		if n, e := Currency(x.l, x.entity); n != x.number || e != x.e {
			t.Errorf("Currency(%v, %d): %d, %v; not %d, %v", x.l, x.entity, n, e, x.number, x.e)
		}
		tellsCurrency(t, x.l, x.entity)
	}
}

// P17.1: all entities of rows of each length, those beside them, and far away.
func TestCurrencyOfEach(t *testing.T) {
	for many := range 90 {
		l := row(many)
		for entity := -3; entity <= many+3; entity++ {
			tellsCurrency(t, l, entity)
			tellsCurrency(t, make([]int, many), entity)
		}
		for _, entity := range strangers() {
			tellsCurrency(t, l, entity)
			tellsCurrency(t, l, entity+many)
		}
	}
}

// P17.2: what Add tells, written out: both errors, the one that is named first ahead, and the rows at the limit.
func TestAdd(t *testing.T) {
	for _, x := range []struct {
		l        []int
		currency int
		out      []int
		e        api.Errno
	}{
		{nil, 1, []int{1}, api.OK},
		{nil, 8, []int{8}, api.OK},
		{[]int{}, 5, []int{5}, api.OK},
		{[]int{2}, 1, []int{2, 1}, api.OK},
		{[]int{2, 1}, 2, []int{2, 1, 2}, api.OK},
		{[]int{0, 9, -1}, 3, []int{0, 9, -1, 3}, api.OK}, // what stands there already is not looked at
		{[]int{most, least}, 8, []int{most, least, 8}, api.OK},
		{row(38), 7, append(row(38), 7), api.OK},
		{row(39), 7, append(row(39), 7), api.OK},
		{make([]int, 39), 1, append(make([]int, 39), 1), api.OK},
		{row(40), 7, nil, api.ErrFull},
		{row(40), 1, nil, api.ErrFull},
		{row(40), 8, nil, api.ErrFull},
		{row(41), 7, nil, api.ErrFull},
		{row(300), 7, nil, api.ErrFull},
		{make([]int, 40), 7, nil, api.ErrFull},
		{nil, 0, nil, api.ErrCurrency},
		{nil, 9, nil, api.ErrCurrency},
		{nil, -1, nil, api.ErrCurrency},
		{nil, least, nil, api.ErrCurrency},
		{nil, most, nil, api.ErrCurrency},
		{[]int{1, 2}, 0, nil, api.ErrCurrency},
		{[]int{1, 2}, 9, nil, api.ErrCurrency},
		{row(39), 0, nil, api.ErrCurrency},
		{row(40), 0, nil, api.ErrCurrency},
		{row(40), 9, nil, api.ErrCurrency},
		{row(41), -1, nil, api.ErrCurrency},
		{row(41), most, nil, api.ErrCurrency},
	} {
		if out, e := Add(x.l, x.currency); !slices.Equal(out, x.out) || e != x.e {
			t.Errorf("Add(%v, %d): %v, %v; not %v, %v", x.l, x.currency, out, e, x.out, x.e)
		}
		adds(t, x.l, x.currency)
	}
}

// P17.2: each currency, and each number that is none, to rows of each length.
func TestAddToEach(t *testing.T) {
	for many := range 45 {
		for currency := -2; currency <= 12; currency++ {
			adds(t, row(many), currency)
			adds(t, make([]int, many), currency)
		}
		for _, currency := range strangers() {
			adds(t, row(many), currency)
		}
	}
}

// P17.2: rows that are added to the same one, with much spare room, do not touch one another, nor it, nor its spare room.
func TestAddToTheSame(t *testing.T) {
	whole := slices.Repeat([]int{-7}, 100)
	for many := range 40 {
		copy(whole, row(many))
		was := slices.Clone(whole)
		l := whole[:many]
		one, e := Add(l, 1)
		two, f := Add(l, 2)
		if e != api.OK || f != api.OK || !slices.Equal(one, append(row(many), 1)) || !slices.Equal(two, append(row(many), 2)) {
			t.Fatalf("Add of 1 and of 2 to %v: %v, %v; %v, %v", l, one, e, two, f)
		}
		spoil(one)
		if !slices.Equal(two, append(row(many), 2)) || !slices.Equal(whole, was) {
			t.Fatalf("Add of 1 and of 2 to %v, the first one written over: %v; and in that row %v", l, two, whole)
		}
		spoil(whole)
		if !slices.Equal(two, append(row(many), 2)) {
			t.Fatalf("Add of 2 to a row of %d, that one written over: %v", many, two)
		}
	}
}

// P17.2: what Of tells, written out.
func TestOf(t *testing.T) {
	l := []int{2, 1, 2, 8, 1, 3}
	odd := []int{9, 2, 0, -1, 9, least, most}
	for _, x := range []struct {
		l, currencies, of []int
	}{
		{[]int{2, 1, 2}, []int{2}, []int{1, 3}},
		{l, nil, nil},
		{l, []int{}, nil},
		{l, []int{1}, []int{2, 5}},
		{l, []int{2}, []int{1, 3}},
		{l, []int{3}, []int{6}},
		{l, []int{8}, []int{4}},
		{l, []int{4}, nil},
		{l, []int{1, 2}, []int{1, 2, 3, 5}},
		{l, []int{2, 1}, []int{1, 2, 3, 5}},
		{l, []int{8, 3}, []int{4, 6}},
		{l, []int{2, 2}, []int{1, 3}},
		{l, []int{2, 1, 2, 2, 1}, []int{1, 2, 3, 5}},
		{l, []int{7, 3, 4, 1}, []int{2, 5, 6}},
		{l, []int{8, 7, 6, 5, 4, 3, 2, 1}, []int{1, 2, 3, 4, 5, 6}},
		{l, []int{0}, nil},
		{l, []int{9, -1, least, most, 0}, nil},
		{l, []int{9, 2, -1, least, 8, most, 0}, []int{1, 3, 4}},
		{l, []int{1<<32 + 2, 1<<8 + 1, -1<<32 + 2}, nil},
		{l, l, []int{1, 2, 3, 4, 5, 6}},
		{l, l[3:], []int{2, 4, 5, 6}},
		{nil, nil, nil},
		{nil, []int{1}, nil},
		{nil, []int{0, 1, 2, 3, 4, 5, 6, 7, 8, 9}, nil},
		{[]int{}, []int{1}, nil},
		{[]int{5}, []int{5}, []int{1}},
		{[]int{5}, []int{1}, nil}, // 1 is the entity, not its currency
		{odd, []int{2}, []int{2}},
		{odd, []int{9}, []int{1, 5}}, // what an entity has is its currency, whatever it is
		{odd, []int{0, most}, []int{3, 7}},
		{odd, []int{least, -1}, []int{4, 6}},
		{odd, odd, []int{1, 2, 3, 4, 5, 6, 7}},
		{with(make([]int, 60), 7, 0, 39, 40, 59), []int{7}, []int{1, 40, 41, 60}},
		{with(make([]int, 300), 7, 255, 256, 299), []int{8, 7}, []int{256, 257, 300}},
	} {
		if of := Of(x.l, x.currencies...); !slices.Equal(of, x.of) {
			t.Errorf("Of(%v, %v...): %v, not %v", x.l, x.currencies, of, x.of)
		}
		tellsOf(t, x.l, x.currencies...)
	}
}

// P17.2: currencies that come one by one, and as a row of the caller's, to which that stands among them.
func TestOfAsItComes(t *testing.T) {
	l := []int{4, 3, 2, 1, 2, 3, 4}
	if of := Of(l); len(of) != 0 {
		t.Errorf("Of without a currency: %v", of)
	}
	if of := Of(l, 3); !slices.Equal(of, []int{2, 6}) {
		t.Errorf("Of with 3: %v", of)
	}
	if of := Of(l, 4, 2, 4); !slices.Equal(of, []int{1, 3, 5, 7}) {
		t.Errorf("Of with 4, 2, 4: %v", of)
	}
	if of := Of(l, l...); !slices.Equal(of, []int{1, 2, 3, 4, 5, 6, 7}) || !slices.Equal(l, []int{4, 3, 2, 1, 2, 3, 4}) {
		t.Errorf("Of with the row itself: %v, and the row is %v", of, l)
	}
	if of := Of(l, l[:2]...); !slices.Equal(of, []int{1, 2, 6, 7}) || !slices.Equal(l, []int{4, 3, 2, 1, 2, 3, 4}) {
		t.Errorf("Of with the row's first two: %v, and the row is %v", of, l)
	}
}

// P17.2: a long row, and as many currencies, of which no entity has any, and then the last one alone.
func TestOfLongRows(t *testing.T) {
	const long = 200000
	l, asked := make([]int, long), make([]int, long)
	for i := range long {
		l[i], asked[i] = 2*i, long-(2*i+1)
	}
	if of := Of(l, asked...); len(of) != 0 {
		t.Errorf("Of: %d entities", len(of))
	}
	asked[long/2] = 2 * (long - 1)
	if of := Of(l, asked...); !slices.Equal(of, []int{long}) {
		t.Errorf("Of: %v", of)
	}
}

// each tells all rows of so many numbers out of some.
func each(many int, numbers []int, tell func(l []int)) {
	if many == 0 {
		tell(nil)
		return
	}
	each(many-1, numbers, func(l []int) {
		for _, n := range numbers {
			tell(append(slices.Clone(l), n))
		}
	})
}

// P17.1, P17.2: all rows of up to 3 entities, with all that may be asked of them.
func TestAllSmallRows(t *testing.T) {
	numbers := []int{-1, 0, 1, 2, 7, 8, 9}
	for many := range 4 {
		each(many, numbers, func(l []int) {
			checks(t, l)
			for entity := -1; entity <= many+2; entity++ {
				tellsCurrency(t, l, entity)
			}
			for _, currency := range numbers {
				adds(t, l, currency)
			}
			for asked := range 4 {
				each(asked, numbers, func(currencies []int) { tellsOf(t, l, currencies...) })
			}
		})
	}
}

func drawnNumber(r *rand.Rand) int {
	switch r.Intn(12) {
	case 0:
		return strangers()[r.Intn(len(strangers()))]
	case 1:
		return int(r.Uint64()) >> r.Intn(64)
	}
	return r.Intn(8) + 1
}

func drawnRow(r *rand.Rand, many int) []int {
	l := make([]int, many)
	for i := range l {
		l[i] = r.Intn(8) + 1
	}
	for range r.Intn(4) {
		if many > 0 {
			l[r.Intn(many)] = drawnNumber(r)
		}
	}
	return l
}

// P17.1, P17.2: drawn calls. (The draw is the same each time.)
func TestDrawn(t *testing.T) {
	r := rand.New(rand.NewSource(1))
	for range 30000 {
		l := drawnRow(r, r.Intn(48))
		checks(t, l)
		tellsCurrency(t, l, r.Intn(len(l)+4)-1)
		tellsCurrency(t, l, drawnNumber(r))
		adds(t, l, drawnNumber(r))
		tellsOf(t, l, drawnRow(r, r.Intn(5))...)
		tellsOf(t, l, drawnRow(r, r.Intn(40))...)
	}
}

// P17.1, P17.3: a row that is made by Adds, one behind the other, may be at each step; at each the entities that were there keep their currencies, in the row that was and in the one that is; what is refused makes no row.
func TestAddsChangeNoOther(t *testing.T) {
	r := rand.New(rand.NewSource(2))
	for range 200 {
		var l []int
		var rows, were [][]int
		for len(l) < 40 {
			currency := drawnNumber(r)
			m, e := Add(l, currency)
			if !isCurrency(currency) {
				if len(m) != 0 || e != api.ErrCurrency {
					t.Fatalf("Add(%v, %d): %v, %v", l, currency, m, e)
				}
				continue
			}
			addedOne(t, l, m, currency, e)
			rows, were = append(rows, m), append(were, slices.Clone(m))
			l = m
		}
		for i := range rows {
			if !slices.Equal(rows[i], were[i]) {
				t.Fatalf("%v became %v, as more were added", were[i], rows[i])
			}
		}
		if m, e := Add(l, 1); len(m) != 0 || e != api.ErrFull {
			t.Fatalf("Add to 40: %v, %v", m, e)
		}
	}
}

// addedOne looks at whether a row has one more than another one, of that currency, and else the same.
func addedOne(t *testing.T, l, m []int, currency int, e api.Errno) {
	t.Helper()
	if at, f := Check(m); e != api.OK || f != api.OK || at != len(l)+1 {
		t.Fatalf("Add(%v, %d): %v, %v; of which Check tells %d, %v", l, currency, m, e, at, f)
	}
	for entity := 1; entity <= len(l); entity++ {
		before, e := Currency(l, entity)
		behind, f := Currency(m, entity)
		if before != behind || e != api.OK || f != api.OK {
			t.Fatalf("entity %d: %d, %v; behind an Add of %d: %d, %v", entity, before, e, currency, behind, f)
		}
	}
	if n, e := Currency(m, len(l)+1); n != currency || e != api.OK {
		t.Fatalf("entity %d, with %d: Currency tells %d, %v", len(l)+1, currency, n, e)
	}
	before, behind := Of(l, currency), Of(m, currency)
	if !slices.Equal(behind, append(before, len(l)+1)) {
		t.Fatalf("Of %d: %v; behind an Add of it: %v", currency, before, behind)
	}
	for other := 0; other <= 9; other++ {
		if other != currency && !slices.Equal(Of(l, other), Of(m, other)) {
			t.Fatalf("Of %d: %v; behind an Add of %d: %v", other, Of(l, other), currency, Of(m, other))
		}
	}
}

// P17.4: each entity is among those Of its currency, whatever that is, and of no other one, be they asked one by one or all at once; Of all that are there tells all.
func TestOfItsCurrencyAlone(t *testing.T) {
	r := rand.New(rand.NewSource(3))
	numbers := append(strangers(), 1, 2, 3, 4, 5, 6, 7, 8)
	for range 1000 {
		l := drawnRow(r, r.Intn(48))
		for entity := 1; entity <= len(l); entity++ {
			its, e := Currency(l, entity)
			if e != api.OK || !slices.Contains(Of(l, its), entity) {
				t.Fatalf("entity %d of %v is not among those Of %d (%v)", entity, l, its, e)
			}
			others := slices.DeleteFunc(slices.Concat(numbers, l), func(n int) bool { return n == its })
			if slices.Contains(Of(l, others...), entity) {
				t.Fatalf("entity %d of %v, with %d, is among those Of %v", entity, l, its, others)
			}
			for currency := range 10 {
				if currency != its && slices.Contains(Of(l, currency), entity) {
					t.Fatalf("entity %d of %v, with %d, is among those Of %d", entity, l, its, currency)
				}
			}
		}
		if all := Of(l, l...); len(all) != len(l) {
			t.Fatalf("Of all currencies of %v: %v", l, all)
		}
	}
}

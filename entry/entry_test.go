package entry

import (
	"math/big"
	"math/rand"
	"slices"
	"testing"

	"gavelkind/api"
)

// refuses looks at whether Check tells a place and an error, written out, of 3 entities and 5 accounts; and what the model tells.
func refuses(t *testing.T, x api.Entry, at int, e api.Errno) {
	t.Helper()
	if isAt, is := Check(x, 3, 5); isAt != at || is != e {
		t.Errorf("Check(%v, 3, 5): %d, %v; not %d, %v", show(x), isAt, is, at, e)
	}
	tellsCheck(t, x, 3, 5)
}

func accepts(t *testing.T, x api.Entry) {
	t.Helper()
	refuses(t, x, len(x.Lines), api.OK)
}

// trouble is a line of 3 entities and 5 accounts that may not be, and why.
type trouble struct {
	x api.Line
	e api.Errno
}

func troubles() []trouble {
	return []trouble{
		{ln(0, 4, 2, 5), api.ErrEntity},
		{ln(4, 4, 0, 5), api.ErrEntity},
		{ln(-1, 4, 0, 5), api.ErrEntity},
		{ln(1, 0, 2, 5), api.ErrAccount},
		{ln(1, 6, 0, 5), api.ErrAccount},
		{ln(3, -1, 0, 5), api.ErrAccount},
		{ln(1, 4, 1, 5), api.ErrPartner},
		{ln(3, 5, 3, -5), api.ErrPartner},
		{ln(1, 4, 4, 5), api.ErrPartner},
		{ln(1, 4, 5, 5), api.ErrPartner},
		{ln(1, 4, -1, 5), api.ErrPartner},
		{ln(1, 4, 0, 0), api.ErrZero},
		{ln(3, 1, 2, 0), api.ErrZero},
		// several at once
		{api.Line{}, api.ErrEntity},
		{ln(0, 0, 0, 5), api.ErrEntity},
		{ln(0, 4, 4, 5), api.ErrEntity},
		{ln(0, 4, 0, 0), api.ErrEntity},
		{ln(4, 6, 4, 0), api.ErrEntity},
		{ln(4, 4, 4, 5), api.ErrEntity},
		{ln(least, least, least, 0), api.ErrEntity},
		{ln(1, 0, 1, 5), api.ErrAccount},
		{ln(1, 6, 9, 5), api.ErrAccount},
		{ln(1, 6, 0, 0), api.ErrAccount},
		{ln(3, most, most, 0), api.ErrAccount},
		{ln(2, 4, 2, 0), api.ErrPartner},
		{ln(1, 4, 4, 0), api.ErrPartner},
		{ln(2, 4, -1, 0), api.ErrPartner},
	}
}

// P23.1: ordinary entries, written out.
func TestCheckPlain(t *testing.T) {
	accepts(t, post(0, ln(1, 4, 0, 500), ln(1, 5, 0, -500))) // the chapter's example
	accepts(t, post(0, ln(1, 4, 0, 500), ln(1, 4, 0, -500)))
	accepts(t, post(5, ln(1, 4, 0, 5), ln(1, 5, 2, -2), ln(1, 5, 3, -3)))
	accepts(t, post(23, ln(2, 5, 1, 30), ln(3, 5, 1, -7), ln(2, 4, 0, -30), ln(3, 4, 0, 7)))
	accepts(t, post(7, ln(3, 1, 1, -1), ln(2, 2, 3, 4), ln(1, 3, 2, 9), ln(3, 5, 0, 1), ln(1, 5, 0, -9), ln(2, 1, 0, -4)))
	refuses(t, post(0, ln(1, 4, 0, 500), ln(1, 5, 0, -499)), -1, api.ErrBalance)
	refuses(t, post(0, ln(1, 4, 0, 500), ln(2, 4, 0, -500)), -1, api.ErrBalance)
	refuses(t, post(0, ln(1, 4, 0, 500)), -1, api.ErrLines)
	refuses(t, post(24, ln(1, 4, 0, 500), ln(1, 5, 0, -500)), -1, api.ErrPeriod)
	refuses(t, post(0, ln(1, 4, 0, 500), ln(1, 5, 1, -500)), 1, api.ErrPartner)
	refuses(t, api.Entry{}, -1, api.ErrLines)
}

// P23.1: Period goes through all periods, and beyond: ErrPeriod ahead of all others.
func TestCheckPeriod(t *testing.T) {
	periods := append(far(), 24, 25, 39, 40, 41)
	for _, period := range periods {
		for _, count := range []int{2, 3, 50} {
			refuses(t, post(period, many(count)...), -1, api.ErrPeriod)
			refuses(t, post(period, make([]api.Line, count)...), -1, api.ErrPeriod)
			for _, x := range troubles() {
				refuses(t, post(period, put(many(count), x.x, 0)...), -1, api.ErrPeriod)
				refuses(t, post(period, put(many(count), x.x, count-1)...), -1, api.ErrPeriod)
			}
		}
		refuses(t, post(period), -1, api.ErrPeriod)
		refuses(t, post(period, ln(1, 4, 0, 5)), -1, api.ErrPeriod)
		refuses(t, post(period, many(51)...), -1, api.ErrPeriod)
		refuses(t, post(period, ln(1, 4, 0, 5), ln(1, 4, 0, 5)), -1, api.ErrPeriod)
	}
	for period := range 24 {
		for _, count := range []int{2, 3, 50} {
			accepts(t, post(period, many(count)...))
		}
		refuses(t, post(period), -1, api.ErrLines)
		refuses(t, post(period, many(51)...), -1, api.ErrLines)
	}
}

// P23.1: how many lines there may be: ErrLines ahead of all but ErrPeriod.
func TestCheckHowMany(t *testing.T) {
	for count := 2; count <= 50; count++ {
		accepts(t, post(7, many(count)...))
		refuses(t, post(7, make([]api.Line, count)...), 0, api.ErrEntity)
	}
	refuses(t, post(7), -1, api.ErrLines)
	refuses(t, post(7, []api.Line{}...), -1, api.ErrLines)
	refuses(t, api.Entry{Lines: []api.Line{}}, -1, api.ErrLines)
	for _, x := range append(troubles(), trouble{x: ln(1, 4, 0, 5)}, trouble{x: ln(2, 4, 0, least)}) {
		refuses(t, post(7, x.x), -1, api.ErrLines)
	}
	for _, count := range []int{51, 52, 53, 100, 256, 258, 306, 2000, 1 << 16, 1<<16 + 2, 1<<16 + 50} {
		refuses(t, post(7, many(count)...), -1, api.ErrLines)
		refuses(t, post(7, make([]api.Line, count)...), -1, api.ErrLines)
	}
	for _, x := range troubles() {
		for _, at := range []int{0, 25, 49, 50} {
			refuses(t, post(7, put(many(51), x.x, at)...), -1, api.ErrLines)
		}
	}
	for _, count := range []int{51, 52, 75} { // beyond the limit only by lines that may not be
		refuses(t, post(7, append(many(50), make([]api.Line, count-50)...)...), -1, api.ErrLines)
	}
}

// P23.1: a fault at the first line, in the middle and at the last one, of lines that are balanced else.
func TestCheckPlace(t *testing.T) {
	for count := 2; count <= 50; count++ {
		for i, x := range troubles() {
			for _, at := range []int{0, 1, i % count, count / 2, count - 2, count - 1} {
				refuses(t, post(7, put(many(count), x.x, at)...), at, x.e)
			}
			refuses(t, post(7, slices.Repeat([]api.Line{x.x}, count)...), 0, x.e)
		}
	}
	for _, x := range troubles() {
		for at := range 50 {
			refuses(t, post(7, put(many(50), x.x, at)...), at, x.e)
		}
		back := x.x
		back.Amount = -back.Amount // so that all lines are balanced
		refuses(t, post(7, x.x, back), 0, x.e)
		refuses(t, post(7, append(many(9), x.x, back)...), 9, x.e)
		refuses(t, post(7, append(many(48), back, x.x)...), 48, x.e)
	}
}

// P23.1: of two wrong lines the first one's.
func TestCheckFirst(t *testing.T) {
	for _, x := range troubles() {
		for _, y := range troubles() {
			refuses(t, post(7, x.x, y.x), 0, x.e)
			refuses(t, post(7, ln(1, 4, 0, 5), x.x, y.x), 1, x.e)
			refuses(t, post(7, ln(1, 4, 0, 5), x.x, ln(1, 4, 0, -5), y.x), 1, x.e)
			refuses(t, post(7, put(put(many(50), x.x, 23), y.x, 24)...), 23, x.e)
			refuses(t, post(7, put(put(many(50), x.x, 0), y.x, 49)...), 0, x.e)
			refuses(t, post(7, put(put(many(50), x.x, 48), y.x, 49)...), 48, x.e)
		}
	}
}

// counts are numbers of entities or accounts, and numbers that are asked of so many.
func counts() []int {
	return append(far(), 0, 1, 2, 3, 4, 5, 39, 40, 41, 59, 60, 61, 1000)
}

// near are counts, and numbers at the end of so many.
func near(many int) []int {
	l := append(counts(), many)
	if many > least {
		l = append(l, many-1)
	}
	if many < most {
		l = append(l, many+1)
	}
	return l
}

// P23.1: Entity, Account and Partner go through all numbers, and beyond, of as many entities and accounts as there may be, and beyond.
func TestCheckNumbers(t *testing.T) {
	for _, many := range counts() {
		for _, other := range []int{least, -1, 0, 1, 2, 7, most} {
			for _, n := range near(many) {
				for _, m := range []int{1, 2, other} {
					tellsCheck(t, post(7, ln(n, m, 0, 5), ln(n, m, 0, -5)), many, other)
					tellsCheck(t, post(7, ln(m, n, 0, 5), ln(m, n, 0, -5)), other, many)
					tellsCheck(t, post(7, ln(m, 1, 0, 5), ln(m, 1, n, -5)), many, other)
					tellsCheck(t, post(7, ln(n, 1, 0, 5), ln(n, 1, m, -5)), many, other)
					tellsCheck(t, post(7, ln(n, 1, 0, 5), ln(n, 1, n, -5)), many, other)
				}
			}
		}
	}
}

// P23.1: Entity, Account and Partner at their ends, written out; how many accounts there are plays no part for an entity, nor the other way round.
func TestCheckNumbersWritten(t *testing.T) {
	for _, c := range []struct {
		x                      api.Line
		entities, accounts, at int
		e                      api.Errno
	}{
		{ln(1, 1, 0, 5), 1, 1, 2, api.OK},
		{ln(1, 1, 0, 5), 0, 1, 0, api.ErrEntity},
		{ln(1, 1, 0, 5), -1, 1, 0, api.ErrEntity},
		{ln(1, 1, 0, 5), least, 1, 0, api.ErrEntity},
		{ln(1, 1, 0, 5), 1, 0, 0, api.ErrAccount},
		{ln(1, 1, 0, 5), 1, -1, 0, api.ErrAccount},
		{ln(1, 1, 0, 5), 1, least, 0, api.ErrAccount},
		{ln(1, 1, 0, 5), most, most, 2, api.OK},
		{ln(40, 60, 39, 5), 40, 60, 2, api.OK},
		{ln(41, 61, 42, 5), 42, 61, 2, api.OK}, // there may be more than a group may have
		{ln(most, most, most-1, 5), most, most, 2, api.OK},
		{ln(most, most, 1, 5), most - 1, most, 0, api.ErrEntity},
		{ln(most, most, 1, 5), most, most - 1, 0, api.ErrAccount},
		{ln(1, 1, most, 5), most - 1, most, 0, api.ErrPartner},
		{ln(1, 1, most, 5), most, 1, 2, api.OK},
		{ln(9, 2, 8, 5), 9, 2, 2, api.OK},
		{ln(9, 3, 8, 5), 9, 2, 0, api.ErrAccount},
		{ln(2, 9, 1, 5), 2, 9, 2, api.OK},
		{ln(3, 9, 1, 5), 2, 9, 0, api.ErrEntity},
		{ln(1, 9, 3, 5), 2, 9, 0, api.ErrPartner},
		{ln(1, 2, 2, 5), 1, 9, 0, api.ErrPartner},
		{ln(1, 1, 1, 5), 1, 1, 0, api.ErrPartner},
		{ln(2, 1, 2, 5), 2, 1, 0, api.ErrPartner},
		{ln(2, 1, 1, 5), 2, 1, 2, api.OK},
		{ln(1, 1, 2, 5), 2, 1, 2, api.OK},
		{ln(1, 1, least, 5), 2, 1, 0, api.ErrPartner},
		{ln(least, 1, 0, 5), 2, 1, 0, api.ErrEntity},
		{ln(1, least, 0, 5), 2, 1, 0, api.ErrAccount},
		{ln(1, 1, -1, 5), most, most, 0, api.ErrPartner},
		{ln(0, 1, 1, 5), most, most, 0, api.ErrEntity},
		{ln(1, 0, 2, 5), most, most, 0, api.ErrAccount},
		{ln(2, 3, 0, 5), 2, 3, 2, api.OK},
	} {
		back := c.x
		back.Amount = -5
		x := post(7, c.x, back)
		if at, e := Check(x, c.entities, c.accounts); at != c.at || e != c.e {
			t.Errorf("Check(%v, %d, %d): %d, %v; not %d, %v", x, c.entities, c.accounts, at, e, c.at, c.e)
		}
		tellsCheck(t, x, c.entities, c.accounts)
	}
}

// P23.1: Reverses plays no part, whatever it is.
func TestCheckReverses(t *testing.T) {
	for _, reverses := range append(far(), 0, 1, 2, 7, 50, 2000, 2001) {
		accepts(t, turn(7, reverses, many(8)...))
		refuses(t, turn(24, reverses, many(8)...), -1, api.ErrPeriod)
		refuses(t, turn(7, reverses), -1, api.ErrLines)
		refuses(t, turn(7, reverses, ln(1, 4, 0, 5), ln(1, 4, 0, 0)), 1, api.ErrZero)
		refuses(t, turn(7, reverses, ln(1, 4, 0, 5), ln(1, 4, 0, 5)), -1, api.ErrBalance)
	}
}

// sum is a row of amounts, and what it comes to, if it is in range.
type sum struct {
	amounts []int
	n       int
	e       api.Errno
}

// sums are rows of 2 amounts or more, none of which is 0.
func sums() []sum {
	const half = 1 << 62
	return []sum{
		{[]int{5, -5}, 0, api.OK},
		{[]int{5, -4}, 1, api.OK},
		{[]int{-5, 4}, -1, api.OK},
		{[]int{5, 5}, 10, api.OK},
		{[]int{1, 2, 3, -6}, 0, api.OK},
		{[]int{1, 2, 3, 6}, 12, api.OK},
		{[]int{-3, 1, 1, 1}, 0, api.OK},
		{[]int{most, -most}, 0, api.OK},
		{[]int{most, least}, -1, api.OK},
		{[]int{most, least, 1}, 0, api.OK},
		{[]int{1, least, most}, 0, api.OK},
		{[]int{least, most, 1}, 0, api.OK},
		{[]int{most, 1, least}, 0, api.OK}, // beyond the range on the way
		{[]int{least, -1, most, 2}, 0, api.OK},
		{[]int{most, most, least, least, 2}, 0, api.OK},
		{[]int{least, least, most, most, 2}, 0, api.OK},
		{[]int{most, most, most, 3, least, least, least}, 0, api.OK},
		{[]int{most, most, most, most, least, least, least, least, 4}, 0, api.OK},
		{slices.Concat(slices.Repeat([]int{most}, 24), slices.Repeat([]int{least}, 24), []int{20, 4}), 0, api.OK},
		{slices.Concat(slices.Repeat([]int{least}, 24), slices.Repeat([]int{most}, 24), []int{23}), -1, api.OK},
		{[]int{least, least}, 0, api.ErrOver}, // 0 only if numbers wrapped round
		{[]int{most, most, 2}, 0, api.ErrOver},
		{[]int{half, half, half, half}, 0, api.ErrOver},
		{[]int{-half, -half, -half, -half}, 0, api.ErrOver},
		{[]int{least, least, least, least}, 0, api.ErrOver},
		{[]int{least, -half, -half}, 0, api.ErrOver},
		{[]int{most, 1, most, 1}, 0, api.ErrOver},
		{slices.Repeat([]int{least}, 50), 0, api.ErrOver},
		{slices.Repeat([]int{half}, 48), 0, api.ErrOver},
		{[]int{most, 1}, 0, api.ErrOver},
		{[]int{least, -1}, 0, api.ErrOver},
		{[]int{most, most}, 0, api.ErrOver},
		{[]int{most, most, least, 2}, 0, api.ErrOver},
		{[]int{least, least, most}, 0, api.ErrOver},
		{[]int{most, most, least}, most - 1, api.OK},
		{[]int{most, -1, 1}, most, api.OK},
		{[]int{most, 1, -1}, most, api.OK},
		{[]int{least, -1, 1}, least, api.OK},
		{[]int{-half, -half}, least, api.OK},
		{[]int{half, half - 1}, most, api.OK},
		{[]int{half, half}, 0, api.ErrOver},
		{[]int{-half, -half, -1}, 0, api.ErrOver},
		{[]int{least, least, -1, most, 2}, least, api.OK},
		{[]int{least, least, -1, most, 1}, 0, api.ErrOver},
		{[]int{most, most, 1, -most}, 0, api.ErrOver},
		{[]int{1 << 32, 1 << 32}, 1 << 33, api.OK}, // 0 only in fewer bits
		{[]int{1 << 31, 1 << 31}, 1 << 32, api.OK},
		{[]int{200, 56}, 256, api.OK},
		{[]int{1 << 53, 1, -1 << 53}, 1, api.OK}, // 0 only in numbers that are rounded
		{[]int{most, -most + 1}, 1, api.OK},
		{[]int{1 << 53, 1, 1, -1<<53 - 2}, 0, api.OK},
	}
}

// P23.1: lines of one entity are balanced if they come to 0 as whole numbers; those of another one play no part.
func TestCheckBalance(t *testing.T) {
	for _, s := range sums() {
		check := func(lines []api.Line) {
			t.Helper()
			switch x := post(7, lines...); {
			case len(lines) > 50:
				refuses(t, x, -1, api.ErrLines)
			case s.n == 0 && s.e == api.OK:
				accepts(t, x)
			default:
				refuses(t, x, -1, api.ErrBalance)
			}
		}
		for entity := 1; entity <= 3; entity++ {
			lines := amounts(entity, s.amounts...)
			other := amounts(1+entity%3, 5, least, most, -4)
			back := slices.Clone(lines)
			slices.Reverse(back)
			check(lines)
			check(back)
			check(slices.Concat(lines, other))
			check(slices.Concat(other, lines))
			check(slices.Concat(other[:2], lines, other[2:]))
			check(slices.Concat(lines[:1], other[:1], lines[1:], other[1:]))
			if len(lines) < 46 {
				refuses(t, post(7, slices.Concat(lines, other[1:])...), -1, api.ErrBalance) // the other one is not
				refuses(t, post(7, slices.Concat(other[:3], lines)...), -1, api.ErrBalance)
			}
		}
	}
}

// P23.1: balanced as a whole, but not for each entity; for each account or partner, but for no entity.
func TestCheckBalanceOfEach(t *testing.T) {
	for _, lines := range [][]api.Line{
		{ln(1, 4, 0, 5), ln(2, 4, 0, -5)},
		{ln(1, 4, 2, 5), ln(2, 4, 1, -5)},
		{ln(1, 4, 0, 5), ln(1, 4, 0, -4), ln(2, 4, 0, -1)},
		{ln(1, 4, 0, 5), ln(1, 5, 0, -5), ln(2, 4, 0, 5), ln(3, 4, 0, -5)},
		{ln(1, 4, 0, 5), ln(2, 5, 0, -4), ln(2, 4, 0, 4), ln(1, 5, 0, -4), ln(3, 1, 0, -1)},
		{ln(2, 4, 0, 5), ln(2, 5, 0, -6), ln(1, 4, 0, 1), ln(1, 4, 0, 6), ln(1, 4, 0, -6)},
		{ln(1, 1, 0, 5), ln(2, 1, 0, -5), ln(1, 2, 0, 3), ln(2, 2, 0, -3)},
		{ln(1, 1, 3, 5), ln(2, 2, 3, -5), ln(1, 4, 0, 3), ln(2, 4, 0, -3)},
		{ln(1, 4, 0, most), ln(2, 4, 0, -most)},
		{ln(1, 4, 0, most), ln(2, 4, 0, least), ln(3, 4, 0, 1)},
		{ln(1, 4, 0, least), ln(1, 4, 0, least), ln(2, 4, 0, most), ln(2, 4, 0, most), ln(2, 4, 0, 2)},
		{ln(1, 4, 0, 1), ln(2, 4, 0, 1), ln(3, 4, 0, -2)},
		{ln(1, 4, 0, -1), ln(2, 4, 0, -1), ln(3, 4, 0, 2), ln(3, 4, 0, -2), ln(1, 4, 0, 1), ln(1, 4, 0, 1)},
	} {
		refuses(t, post(7, lines...), -1, api.ErrBalance)
	}
	accepts(t, post(7, ln(1, 1, 2, 5), ln(1, 2, 0, -3), ln(1, 3, 3, -2))) // for the entity, but for no account and no partner
	accepts(t, post(7, ln(1, 4, 0, 5), ln(2, 4, 0, -5), ln(1, 4, 0, -5), ln(2, 4, 0, 5)))
	for at := range 50 { // one line is off, wherever it stands
		lines := many(50)
		lines[at].Amount++
		if lines[at].Amount == 0 {
			lines[at].Amount++
		}
		refuses(t, post(7, lines...), -1, api.ErrBalance)
	}
	for at := range 50 { // one line is another entity's
		lines := many(50)
		lines[at].Entity, lines[at].Partner = 1+lines[at].Entity%3, 0
		refuses(t, post(7, lines...), -1, api.ErrBalance)
	}
}

// P23.1: Amount 0, and those at the ends of the range.
func TestCheckAmount(t *testing.T) {
	for _, amount := range append(far(), 1, 2, 1<<31, 1<<33, 1<<48) {
		if amount == least {
			accepts(t, post(7, ln(1, 4, 0, least), ln(1, 4, 0, most), ln(1, 4, 0, 1)))
			refuses(t, post(7, ln(1, 4, 0, least), ln(1, 4, 0, least)), -1, api.ErrBalance)
			continue
		}
		accepts(t, post(7, ln(1, 4, 0, amount), ln(1, 4, 0, -amount)))
		refuses(t, post(7, ln(1, 4, 0, amount), ln(1, 4, 0, -amount), ln(1, 4, 0, 0)), 2, api.ErrZero)
	}
	refuses(t, post(7, ln(1, 4, 0, 0), ln(1, 4, 0, 0)), 0, api.ErrZero)
	refuses(t, post(7, ln(1, 4, 0, 0), ln(1, 5, 0, 1)), 0, api.ErrZero)
	refuses(t, post(7, ln(1, 4, 0, 1), ln(1, 5, 0, 0)), 1, api.ErrZero)
}

// P23.2: Entities, written out.
func TestEntities(t *testing.T) {
	for _, c := range []struct {
		of   []int
		want []int
	}{
		{nil, nil},
		{[]int{1}, []int{1}},
		{[]int{40}, []int{40}},
		{[]int{1, 1}, []int{1}},
		{[]int{2, 2, 2, 2}, []int{2}},
		{[]int{1, 2}, []int{1, 2}},
		{[]int{2, 1}, []int{1, 2}},
		{[]int{3, 1, 2, 1, 3}, []int{1, 2, 3}},
		{[]int{3, 3, 1, 1}, []int{1, 3}},
		{[]int{1, 3, 1, 3}, []int{1, 3}},
		{[]int{10, 9, 2, 1, 20}, []int{1, 2, 9, 10, 20}}, // as numbers, not as texts
		{[]int{0}, []int{0}},
		{[]int{0, 0, 1}, []int{0, 1}},
		{[]int{1, -1, 0, -2, -1}, []int{-2, -1, 0, 1}},
		{[]int{most, least, 0, 41, least, most}, []int{least, 0, 41, most}},
		{[]int{least + 1, least, most, most - 1}, []int{least, least + 1, most - 1, most}},
		{[]int{1<<32 + 1, 1, 257, 1 << 16}, []int{1, 257, 1 << 16, 1<<32 + 1}},
		{[]int{-1 << 32, 0, 1 << 32}, []int{-1 << 32, 0, 1 << 32}},
	} {
		x := turn(-5, 3)
		for i, entity := range c.of {
			x.Lines = append(x.Lines, ln(entity, 99-i, 50+i, i-1))
		}
		if are := Entities(x); !slices.Equal(are, c.want) {
			t.Errorf("Entities(%v): %v, not %v", x, are, c.want)
		}
		tellsAll(t, x, c.of...)
	}
}

// P23.2: Entities are those of the lines alone: no partner, no account, and none of lines behind.
func TestEntitiesAlone(t *testing.T) {
	lines := []api.Line{ln(2, 7, 5, 1), ln(4, 8, 6, 0), ln(2, 9, 4, -1), ln(3, 7, 5, 1)}
	for count, want := range [][]int{nil, {2}, {2, 4}, {2, 4}, {2, 3, 4}} {
		if are := Entities(turn(9, 8, lines[:count]...)); !slices.Equal(are, want) {
			t.Errorf("Entities of %v: %v, not %v", lines[:count], are, want)
		}
	}
}

// P23.2: Total, written out.
func TestTotal(t *testing.T) {
	x := turn(2, 7, ln(3, 4, 1, 5), ln(1, 5, 3, most), ln(3, 5, 2, -7), ln(1, 4, 3, 1), ln(2, 1, 3, least), ln(4, 3, 2, 0), ln(5, 2, 3, 10), ln(5, 3, 3, -10))
	for _, c := range []struct {
		entity, n int
		e         api.Errno
	}{
		{3, -2, api.OK},
		{1, 0, api.ErrOver},
		{2, least, api.OK},
		{4, 0, api.OK},
		{5, 0, api.OK},
		{6, 0, api.OK},
		{0, 0, api.OK},
		{-1, 0, api.OK},
		{least, 0, api.OK},
		{most, 0, api.OK},
		{1<<32 + 3, 0, api.OK},
		{256 + 3, 0, api.OK},
	} {
		if n, e := Total(x, c.entity); n != c.n || e != c.e {
			t.Errorf("Total(%v, %d): %d, %v; not %d, %v", x, c.entity, n, e, c.n, c.e)
		}
		tellsTotal(t, x, c.entity)
	}
	for _, entity := range append(far(), 0, 1, 40) {
		for _, x := range []api.Entry{{}, post(0), turn(99, -1, []api.Line{}...)} {
			if n, e := Total(x, entity); n != 0 || e != api.OK {
				t.Errorf("Total of no lines, of %d: %d, %v", entity, n, e)
			}
		}
		one := post(-1, ln(entity, 0, 0, 8), ln(7, entity, entity, 1))
		if n, e := Total(one, entity); n != 8 || e != api.OK {
			t.Errorf("Total of one line, of %d: %d, %v", entity, n, e)
		}
		tellsAll(t, one, entity, 7)
	}
}

// P23.2: Total is a whole number's, whatever is in between, alone and among lines of others.
func TestTotalOfSums(t *testing.T) {
	for _, s := range sums() {
		for _, entity := range []int{1, 3, 0, -1, least, most} {
			lines := amounts(entity, s.amounts...)
			other := []api.Line{ln(7, 1, entity, most), ln(8, entity, 0, least)}
			for _, x := range []api.Entry{
				post(0, lines...),
				turn(24, 9, slices.Concat(other, lines)...),
				turn(-1, -9, slices.Concat(lines, other)...),
				post(23, slices.Concat(other[:1], lines[:1], other[1:], lines[1:])...),
			} {
				if n, e := Total(x, entity); n != s.n || e != s.e {
					t.Errorf("Total(%v, %d): %d, %v; not %d, %v", x, entity, n, e, s.n, s.e)
				}
				tellsTotal(t, x, entity)
			}
		}
	}
}

// opposite looks at whether Opposite tells these amounts, written out, all else being the same.
func opposite(t *testing.T, x api.Entry, amounts ...int) {
	t.Helper()
	want := copied(x)
	for at, amount := range amounts {
		want.Lines[at].Amount = amount
	}
	if out, e := Opposite(x); !same(out, want) || e != api.OK {
		t.Errorf("Opposite(%v): %v, %v; not %v", show(x), show(out), e, show(want))
	}
	tellsOpposite(t, x)
}

// P23.3: Opposite, written out, of entries that may be and of others.
func TestOpposite(t *testing.T) {
	for _, period := range append(far(), 0, 7, 23, 24) {
		for _, reverses := range append(far(), 0, 1, 7, 2000) {
			opposite(t, turn(period, reverses))
			opposite(t, turn(period, reverses, ln(1, 4, 2, 5), ln(1, 5, 3, -5)), -5, 5)
			opposite(t, turn(period, reverses, ln(reverses, period, -3, 0), ln(period, -1, reverses, 9)), 0, -9)
		}
	}
	opposite(t, api.Entry{})
	opposite(t, api.Entry{Lines: []api.Line{}})
	opposite(t, post(0, ln(1, 4, 0, 0)), 0)
	opposite(t, post(0, ln(1, 4, 0, most)), -most)
	opposite(t, post(0, ln(1, 4, 0, least+1)), most)
	opposite(t, post(0, ln(1, 4, 0, most), ln(1, 4, 0, least+1), ln(1, 4, 0, most)), least+1, most, least+1)
	opposite(t, turn(2, 7, ln(3, 4, 0, 5), ln(1, 5, 2, most), ln(3, 5, 1, -7), ln(1, 4, 0, 1)), -5, -most, 7, -1)
	opposite(t, turn(2, 7, ln(-3, -4, -1, -5), ln(least, most, least, -1), ln(most, least, most, 1)), 5, 1, -1)
	opposite(t, post(3, many(50)...), negated(many(50))...)
	opposite(t, post(3, many(51)...), negated(many(51))...)
	opposite(t, post(3, many(1000)...), negated(many(1000))...)
}

// negated are the opposites of the Amounts of lines, none of which is the least one.
func negated(lines []api.Line) []int {
	var l []int
	for _, line := range lines {
		l = append(l, -line.Amount)
	}
	return l
}

// P23.3: the least Amount has no opposite, wherever it stands: ErrOver, and an empty entry.
func TestOppositeOver(t *testing.T) {
	none := func(x api.Entry) {
		t.Helper()
		out, e := Opposite(x)
		if e != api.ErrOver || out.Period != 0 || out.Reverses != 0 || len(out.Lines) != 0 {
			t.Errorf("Opposite(%v): %v, %v", show(x), show(out), e)
		}
		tellsOpposite(t, x)
	}
	for _, count := range []int{1, 2, 3, 49, 50, 51, 300} {
		lines := slices.Repeat([]api.Line{ln(1, 4, 0, 5)}, count)
		for at := range lines {
			none(turn(3, 9, put(lines, ln(2, 5, 1, least), at)...))
			none(turn(24, -9, put(lines, ln(0, 0, 0, least), at, count-1)...))
		}
		none(turn(3, 9, slices.Repeat([]api.Line{ln(1, 4, 0, least)}, count)...))
	}
	x := post(7, ln(1, 4, 0, most), ln(1, 4, 0, 1), ln(1, 4, 0, least)) // one that may be
	accepts(t, x)
	none(x)
	accepts(t, post(7, ln(1, 4, 0, -most), ln(1, 4, 0, most)))
	opposite(t, post(7, ln(1, 4, 0, -most), ln(1, 4, 0, most)), most, -most)
}

// P23.6: Parts, written out.
func TestParts(t *testing.T) {
	a, b, c := ln(3, 4, 1, 5), ln(1, 5, 3, most), ln(3, 5, 0, -7)
	d, f, g := ln(1, 4, 2, 1), ln(2, 1, 3, 0), ln(3, 4, 1, 5)
	zero, below, first, last := ln(0, 1, 1, 2), ln(-4, 1, 1, 3), ln(least, 1, 1, least), ln(most, 1, 1, 5)
	for _, w := range []struct {
		lines []api.Line
		parts [][]api.Line
	}{
		{nil, nil},
		{[]api.Line{}, nil},
		{[]api.Line{a}, [][]api.Line{{a}}},
		{[]api.Line{a, c, g}, [][]api.Line{{a, c, g}}},
		{[]api.Line{c, g, a, c}, [][]api.Line{{c, g, a, c}}},
		{[]api.Line{a, b}, [][]api.Line{{b}, {a}}},
		{[]api.Line{b, a}, [][]api.Line{{b}, {a}}},
		{[]api.Line{a, b, c, d}, [][]api.Line{{b, d}, {a, c}}},
		{[]api.Line{d, c, b, a}, [][]api.Line{{d, b}, {c, a}}},
		{[]api.Line{a, f, b, c, f, d, g}, [][]api.Line{{b, d}, {f, f}, {a, c, g}}},
		{[]api.Line{g, d, f, c, b, a}, [][]api.Line{{d, b}, {f}, {g, c, a}}},
		{[]api.Line{api.Line{}}, [][]api.Line{{api.Line{}}}},
		{[]api.Line{last, zero, b, below, first, b, zero}, [][]api.Line{{first}, {below}, {zero, zero}, {b, b}, {last}}},
		{[]api.Line{first, last, first}, [][]api.Line{{first, first}, {last}}},
	} {
		for _, n := range append(far(), 0, 7, 23) {
			x := turn(n, -n, w.lines...)
			var want []api.Entry
			for _, lines := range w.parts {
				want = append(want, turn(n, -n, lines...))
			}
			if parts := Parts(x); !slices.EqualFunc(parts, want, same) {
				t.Errorf("Parts(%v): %v, not %v", x, parts, want)
			}
			tellsAll(t, x, n)
		}
	}
}

// P23.1 to P23.6: all entries of up to 3 lines of a few kinds.
func TestAllSmallEntries(t *testing.T) {
	some := []api.Line{ln(1, 4, 0, 5), ln(1, 5, 2, -5), ln(1, 4, 3, -10), ln(2, 4, 1, 5), ln(2, 5, 0, -5), ln(3, 5, 0, 5), ln(1, 4, 0, least), ln(1, 5, 2, most), ln(1, 4, 0, 1), ln(2, 4, 2, 5), ln(0, 4, 1, -5), ln(1, 4, 0, 0), ln(2, 6, 0, 5)}
	rows := [][]api.Line{nil}
	for from := 0; from < len(rows); from++ {
		l := rows[from]
		for i, reverses := range []int{0, 0, 4, -1, 0} {
			x := turn([]int{0, 23, 7, 24, -1}[i], reverses, l...)
			tellsCheck(t, x, 3, 5)
			tellsCheck(t, x, 2, 6)
			tellsCheck(t, x, 1, 4)
			follows(t, x, 3, 5)
		}
		tellsAll(t, turn(3, 2, l...), 0, 1, 2, 3, 4)
		if len(l) < 3 {
			for _, line := range some {
				rows = append(rows, append(slices.Clone(l), line))
			}
		}
	}
	if len(rows) != 1+13+169+2197 {
		t.Fatal(len(rows))
	}
}

// follows looks at what follows of an entry that may be (P23.4, P23.5, P23.7); of others nothing does.
func follows(t *testing.T, x api.Entry, entities, accounts int) {
	t.Helper()
	count, e := Check(x, entities, accounts)
	if e != api.OK {
		return
	}
	for _, entity := range Entities(x) {
		if n, e := Total(x, entity); n != 0 || e != api.OK {
			t.Fatalf("Total(%v, %d): %d, %v, and it may be", show(x), entity, n, e)
		}
	}
	followsOpposite(t, x, entities, accounts)
	left := slices.Clone(x.Lines)
	for _, part := range Parts(x) {
		n, e := Check(part, entities, accounts)
		if n != len(part.Lines) || e != api.OK {
			t.Fatalf("of %v %v is a part: Check tells %d, %v", show(x), show(part), n, e)
		}
		if part.Period != x.Period || part.Reverses != x.Reverses || len(Entities(part)) != 1 {
			t.Fatalf("of %v %v is a part", show(x), show(part))
		}
		count -= n
		for _, line := range part.Lines {
			at := slices.Index(left, line)
			if at < 0 {
				t.Fatalf("of %v %v is a part: %v is no line of it, or one of it is told again", show(x), show(part), line)
			}
			left = slices.Delete(left, at, at+1)
		}
	}
	if count != 0 || len(left) != 0 {
		t.Fatalf("Parts(%v) leave %v out", show(x), left)
	}
}

// followsOpposite looks at the Opposite of an entry that may be, if it has one.
func followsOpposite(t *testing.T, x api.Entry, entities, accounts int) {
	t.Helper()
	hasLeast := slices.ContainsFunc(x.Lines, func(line api.Line) bool { return line.Amount == least })
	out, e := Opposite(x)
	if (e == api.ErrOver) != hasLeast || (e == api.OK) == hasLeast {
		t.Fatalf("Opposite(%v): %v", show(x), e)
	}
	if hasLeast {
		return
	}
	if at, e := Check(out, entities, accounts); at != len(x.Lines) || e != api.OK {
		t.Fatalf("Opposite(%v): %v, of which Check tells %d, %v", show(x), show(out), at, e)
	}
	if back, e := Opposite(out); !same(back, x) || e != api.OK {
		t.Fatalf("Opposite(%v): %v, the Opposite of which is %v, %v", show(x), show(out), show(back), e)
	}
}

// P23.4, P23.5, P23.7: what follows of entries that may be, written out.
func TestFollows(t *testing.T) {
	for _, x := range []api.Entry{
		post(0, ln(1, 4, 0, 500), ln(1, 5, 0, -500)),
		turn(23, 5, ln(1, 4, 0, most), ln(1, 5, 0, -most)),
		turn(7, most, ln(2, 4, 0, 5), ln(1, 4, 0, 7), ln(2, 4, 0, -5), ln(1, 4, 0, -7)),
		turn(7, -1, ln(1, 4, 0, 5), ln(1, 4, 0, 5), ln(1, 4, 0, -5), ln(1, 4, 0, -5)), // the same line twice
		post(7, ln(1, 4, 0, most), ln(1, 4, 0, most), ln(1, 4, 0, -most), ln(1, 4, 0, -most)),
		post(7, ln(1, 4, 0, most), ln(1, 4, 0, 1), ln(1, 4, 0, least)),
		post(7, ln(3, 4, 0, 5), ln(1, 4, 0, most), ln(1, 4, 0, 1), ln(3, 4, 0, -5), ln(1, 4, 0, least)),
	} {
		accepts(t, x)
		follows(t, x, 3, 5)
	}
	for count := 2; count <= 50; count++ {
		follows(t, post(7, many(count)...), 3, 5)
	}
	for _, s := range sums() {
		follows(t, post(7, amounts(2, s.amounts...)...), 3, 5)
	}
}

// drawnNumber is any number, small ones more often than others.
func drawnNumber(r *rand.Rand) int {
	switch r.Intn(3) {
	case 0:
		return far()[r.Intn(len(far()))]
	case 1:
		return r.Intn(64) - 2
	}
	return int(r.Uint64()) >> r.Intn(64)
}

// drawnAmount is any number but 0, those at the ends of the range more often than others.
func drawnAmount(r *rand.Rand) int {
	ends := []int{least, least + 1, -1, 1, most - 1, most}
	if n := drawnNumber(r); n != 0 && r.Intn(4) > 0 {
		return n
	}
	return ends[r.Intn(len(ends))]
}

// closed are amounts that bring those of an entity to 0: the greatest ones in range that may be, as long as something is missing.
func closed(of []api.Line, entity int) []int {
	var l []int
	missing := new(big.Int).Neg(cameTo(post(0, of...), entity))
	for missing.Sign() != 0 {
		n := most
		switch {
		case missing.IsInt64():
			n = int(missing.Int64())
		case missing.Sign() < 0:
			n = least
		}
		l = append(l, n)
		missing.Sub(missing, big.NewInt(int64(n)))
	}
	return l
}

// drawnBalanced is an entry that is balanced, of some of these entities, whose lines are shuffled; it may be, but for how many lines it has.
func drawnBalanced(r *rand.Rand, entities, accounts int) api.Entry {
	var lines []api.Line
	put := func(entity, amount int) {
		partner := r.Intn(entities + 1)
		if partner == entity {
			partner = 0
		}
		lines = append(lines, ln(entity, 1+r.Intn(accounts), partner, amount))
	}
	for range 1 + r.Intn(4) {
		entity, small := 1+r.Intn(entities), r.Intn(3) > 0
		for range r.Intn(6) {
			if small {
				put(entity, 1+r.Intn(9))
				continue
			}
			put(entity, drawnAmount(r))
		}
		for _, amount := range closed(lines, entity) {
			put(entity, amount)
		}
	}
	r.Shuffle(len(lines), func(i, j int) { lines[i], lines[j] = lines[j], lines[i] })
	return turn(r.Intn(24), r.Intn(3)*r.Intn(2000), lines...)
}

// bend changes one thing in an entry.
func bend(r *rand.Rand, x api.Entry) api.Entry {
	x = copied(x)
	if r.Intn(12) == 0 || len(x.Lines) == 0 {
		x.Period, x.Reverses = drawnNumber(r), drawnNumber(r)
		return x
	}
	at := r.Intn(len(x.Lines))
	switch line := &x.Lines[at]; r.Intn(7) {
	case 0:
		line.Entity = drawnNumber(r)
	case 1:
		line.Account = drawnNumber(r)
	case 2:
		line.Partner = drawnNumber(r)
	case 3:
		line.Partner = line.Entity
	case 4:
		line.Amount = drawnNumber(r)
	case 5:
		line.Amount = 0
	default:
		x.Lines = slices.Delete(x.Lines, at, at+1)
	}
	return x
}

// P23.1 to P23.7: drawn calls. (The draw is the same each time.)
func TestDrawn(t *testing.T) {
	r := rand.New(rand.NewSource(23))
	seen := map[api.Errno]int{}
	over := 0
	for range 6000 {
		entities, accounts := 1+r.Intn(1+r.Intn(40)), 1+r.Intn(60)
		x := drawnBalanced(r, entities, accounts)
		for range 4 {
			e := tellsCheck(t, x, entities, accounts)
			seen[e]++
			tellsCheck(t, x, r.Intn(entities+1), r.Intn(accounts+1))
			tellsCheck(t, x, drawnNumber(r), drawnNumber(r))
			tellsAll(t, x, r.Intn(entities+2), drawnNumber(r))
			follows(t, x, entities, accounts)
			if f := tellsOpposite(t, x); e == api.OK && f != api.OK {
				over++
			}
			x = bend(r, x)
		}
	}
	for _, e := range []api.Errno{api.OK, api.ErrPeriod, api.ErrLines, api.ErrEntity, api.ErrAccount, api.ErrPartner, api.ErrZero, api.ErrBalance} {
		if seen[e] < 100 {
			t.Errorf("the draw leaves %v out: %v", e, seen)
		}
	}
	if over < 100 {
		t.Errorf("the draw has %d entries that may be and have no Opposite", over)
	}
}

// P23.2, P23.3, P23.6: each answer is new memory: what is written over it changes neither the entry that came in nor any other answer, and what becomes of that entry changes no answer.
func TestNewMemory(t *testing.T) {
	was := turn(7, 9, ln(3, 4, 1, 5), ln(1, 5, 3, 6), ln(3, 5, 0, -7), ln(1, 4, 2, 1))
	x := copied(was)
	turned, parts := turn(7, 9, ln(3, 4, 1, -5), ln(1, 5, 3, -6), ln(3, 5, 0, 7), ln(1, 4, 2, -1)), wantParts(was)
	one, _ := Opposite(x)
	two, _ := Opposite(x)
	a, b := Entities(x), Entities(x)
	p, q := Parts(x), Parts(x)
	_ = append(one.Lines, odd())
	spoil(one.Lines, odd())
	spoil(a, -9)
	for _, part := range p {
		spoil(part.Lines, odd())
	}
	spoil(p, post(9, odd()))
	for range 2 {
		if !same(two, turned) || !slices.Equal(b, []int{1, 3}) || !slices.EqualFunc(q, parts, same) {
			t.Fatalf("the first answers written over: %v, %v, %v", two, b, q)
		}
		spoil(x.Lines, odd()) // in the second round the entry that came in has become another one
	}
	x = copied(was)
	three, _ := Opposite(x)
	if c := Entities(x); !same(three, turned) || !slices.Equal(c, []int{1, 3}) || !slices.EqualFunc(Parts(x), parts, same) {
		t.Fatalf("the first answers written over, asked anew: %v, %v, %v", three, c, Parts(x))
	}
	if !same(x, was) {
		t.Fatalf("the entry that came in is %v", x)
	}
}

// P23.6: an append to the lines of one of the Parts changes no other one, and no line of the entry, however many lines it has.
func TestPartsApart(t *testing.T) {
	for count := 2; count <= 70; count++ {
		for _, entities := range []int{1, 2, 3, count} {
			x := turn(7, 9)
			for i := range count {
				x.Lines = append(x.Lines, ln(entities-i%entities, 4, 0, i))
			}
			was := copied(x)
			parts, want := Parts(x), wantParts(x)
			for at := range parts {
				longer := append(parts[at].Lines, odd(), odd(), odd())
				if !slices.EqualFunc(parts, want, same) || !same(x, was) {
					t.Fatalf("Parts(%v), %v put behind part %d: %v; of the entry: %v", show(was), longer, at, parts, show(x))
				}
			}
			x.Lines[0] = odd()
			if !slices.EqualFunc(parts, want, same) {
				t.Fatalf("Parts(%v), its first line written over: %v", show(was), parts)
			}
		}
	}
}

// P23.1 to P23.6: nothing is kept: what is told of an entry hangs on no call ahead of it, also if its lines have become others.
func TestNothingKept(t *testing.T) {
	x := post(0, ln(1, 4, 0, 5), ln(1, 5, 0, -5), ln(2, 4, 1, 3), ln(2, 4, 1, -3))
	for n := range 24 {
		x.Period, x.Reverses = n, n
		x.Lines[0].Amount, x.Lines[1].Amount = n+1, -n-1
		x.Lines[2].Entity, x.Lines[3].Entity = n%2+2, n%2+2
		accepts(t, x)
		follows(t, x, 3, 5)
		tellsAll(t, x, 1, 2, 3)
		x.Lines[3].Entity = 5
		refuses(t, x, 3, api.ErrEntity)
		tellsAll(t, x, 1, 2, 3)
		x.Lines[3].Entity = 1
		x.Lines[3].Partner = 0
		refuses(t, x, -1, api.ErrBalance)
		tellsAll(t, x, 1, 2, 3)
		x.Lines[3].Partner = 1
		refuses(t, x, 3, api.ErrPartner)
	}
}

// P23.1 to P23.6: entries of many lines, of one entity and of many, end soon.
func TestLongEntries(t *testing.T) {
	const count = 1 << 17
	x := turn(7, 9, make([]api.Line, count)...)
	for i := range x.Lines {
		x.Lines[i] = ln(count-i, 1, 0, least) // of one entity each, the last one first
	}
	refuses(t, x, -1, api.ErrLines)
	are, parts := Entities(x), Parts(x)
	if len(are) != count || len(parts) != count {
		t.Fatalf("%d entities, %d parts", len(are), len(parts))
	}
	for i := range count {
		if are[i] != i+1 || !same(parts[i], turn(7, 9, ln(i+1, 1, 0, least))) {
			t.Fatalf("%d: %v, %v", i, are[i], parts[i])
		}
	}
	for i := range x.Lines {
		x.Lines[i] = ln(5, 1+i, 0, []int{least, most}[2*i/count]) // a long way out of the range, and back
	}
	if n, e := Total(x, 5); n != -count/2 || e != api.OK {
		t.Fatalf("Total of many: %d, %v", n, e)
	}
	if parts := Parts(x); len(parts) != 1 || !same(parts[0], x) || len(Entities(x)) != 1 {
		t.Fatalf("%d parts of lines of one entity", len(parts))
	}
	if n, e := Total(turn(7, 9, x.Lines[:count/2]...), 5); n != 0 || e != api.ErrOver { // a multiple of 2^64
		t.Fatalf("Total of many of the least: %d, %v", n, e)
	}
	for i := range x.Lines {
		x.Lines[i].Amount = i
	}
	opposite(t, x, negated(x.Lines)...)
}

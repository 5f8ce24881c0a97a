package entry

import (
	"math"
	"math/big"
	"slices"
	"testing"

	"gavelkind/api"
)

const most, least = math.MaxInt, math.MinInt

// far are numbers that are neither entities nor accounts nor periods; some of them look like one, if bits are cut off.
func far() []int {
	return []int{-1, -2, -3, -5, -23, -24, -40, 256, 257, 258, 259, 1 << 16, 1<<16 + 1, 1<<31 + 1, 1 << 32, 1<<32 + 1, 1<<32 + 2, 1<<32 + 23, -1<<32 + 1, -1<<32 + 2, least, least + 1, least + 2, most - 1, most}
}

// ln is a line with all its parts.
func ln(entity, account, partner, amount int) api.Line {
	return api.Line{Entity: entity, Account: account, Partner: partner, Amount: amount}
}

// post is an entry with these lines, which reverses none.
func post(period int, lines ...api.Line) api.Entry {
	return api.Entry{Period: period, Lines: lines}
}

// turn is an entry with these lines, which reverses another one.
func turn(period, reverses int, lines ...api.Line) api.Entry {
	return api.Entry{Period: period, Reverses: reverses, Lines: lines}
}

// amounts are lines of one entity with these Amounts.
func amounts(entity int, n ...int) []api.Line {
	var lines []api.Line
	for i, amount := range n {
		lines = append(lines, ln(entity, 1+i%5, 0, amount))
	}
	return lines
}

// many are so many lines, 2 or more, that are balanced, of entities 1 and 2 and, if they are enough, 3; of 5 accounts.
func many(count int) []api.Line {
	lines := make([]api.Line, count)
	left := [4]int{}
	for i := range lines {
		entity := 2
		if count >= 6 {
			entity = 1 + i%3
		}
		partner := []int{0, 1 + entity%3}[i/2%2]
		lines[i] = ln(entity, 1+i*7%5, partner, i+1)
		if i+3 >= count && (count >= 6 || i+1 == count) { // its entity's last one
			lines[i].Amount = -left[entity]
		}
		left[entity] += lines[i].Amount
	}
	return lines
}

// put are lines that have another one at some places.
func put(lines []api.Line, x api.Line, places ...int) []api.Line {
	lines = slices.Clone(lines)
	for _, at := range places {
		lines[at] = x
	}
	return lines
}

// show tells an entry for a fault's text: of a long one its ends.
func show(x api.Entry) any {
	if len(x.Lines) <= 60 {
		return x
	}
	return []any{x.Period, x.Reverses, len(x.Lines), x.Lines[:5], x.Lines[len(x.Lines)-5:]}
}

// same tells whether two entries are; a list without a line may be nil.
func same(x, y api.Entry) bool {
	return x.Period == y.Period && x.Reverses == y.Reverses && slices.Equal(x.Lines, y.Lines)
}

// copied is the same entry, in other memory.
func copied(x api.Entry) api.Entry {
	x.Lines = append([]api.Line{}, x.Lines...)
	return x
}

// spoil writes over all of an answer, its spare room, too: that is its owner's to do.
func spoil[T any](l []T, odd T) {
	l = l[:cap(l)]
	for i := range l {
		l[i] = odd
	}
}

// odd is a line that stands nowhere else.
func odd() api.Line { return ln(-99, -98, -97, -96) }

// lent is an entry that is handed in, and how all of its lines were, their spare room, too.
type lent struct {
	x          api.Entry
	whole, was []api.Line
}

// lend puts an entry's lines ahead of what stands in their spare room, where it would count, if it were looked at.
func lend(x api.Entry) lent {
	whole := slices.Concat(x.Lines, []api.Line{ln(1, 1, 0, 1), ln(2, 1, 1, least), ln(0, 9, 9, 0), ln(3, 3, 0, 7), ln(-7, 0, 0, 0)})
	if x.Lines != nil {
		x.Lines = whole[:len(x.Lines)]
	}
	return lent{x, whole, slices.Clone(whole)}
}

// look looks at whether what was lent is as it was.
func (l lent) look(t *testing.T, call string) {
	t.Helper()
	if !slices.Equal(l.whole, l.was) {
		t.Fatalf("%s: of the lines %v, and their spare room, it made %v", call, l.was, l.whole)
	}
}

// What has to be told, by the chapter's words.

// cameTo is what the lines of an entity come to, as a whole number.
func cameTo(x api.Entry, entity int) *big.Int {
	sum := new(big.Int)
	for _, line := range x.Lines {
		if line.Entity == entity {
			sum.Add(sum, big.NewInt(int64(line.Amount)))
		}
	}
	return sum
}

// inRange tells a whole number, or ErrOver.
func inRange(n *big.Int) (int, api.Errno) {
	if !n.IsInt64() {
		return 0, api.ErrOver
	}
	return int(n.Int64()), api.OK
}

func wantLine(x api.Line, entities, accounts int) api.Errno {
	if !(1 <= x.Entity && x.Entity <= entities) {
		return api.ErrEntity
	}
	if !(1 <= x.Account && x.Account <= accounts) {
		return api.ErrAccount
	}
	if isPartner := 1 <= x.Partner && x.Partner <= entities; !(isPartner || x.Partner == 0) || x.Partner == x.Entity {
		return api.ErrPartner
	}
	if x.Amount == 0 {
		return api.ErrZero
	}
	return api.OK
}

func wantCheck(x api.Entry, entities, accounts int) (int, api.Errno) {
	if !(0 <= x.Period && x.Period <= 23) {
		return -1, api.ErrPeriod
	}
	if !(2 <= len(x.Lines) && len(x.Lines) <= 50) {
		return -1, api.ErrLines
	}
	for at, line := range x.Lines {
		if e := wantLine(line, entities, accounts); e != api.OK {
			return at, e
		}
	}
	for _, line := range x.Lines {
		if cameTo(x, line.Entity).Sign() != 0 {
			return -1, api.ErrBalance
		}
	}
	return len(x.Lines), api.OK
}

// wantEntities takes, as long as there is one, the least entity that is above all taken.
func wantEntities(x api.Entry) []int {
	var taken []int
	for {
		next, is := 0, false
		for _, line := range x.Lines {
			above := len(taken) == 0 || line.Entity > taken[len(taken)-1]
			if above && (!is || line.Entity < next) {
				next, is = line.Entity, true
			}
		}
		if !is {
			return taken
		}
		taken = append(taken, next)
	}
}

func wantTotal(x api.Entry, entity int) (int, api.Errno) { return inRange(cameTo(x, entity)) }

func wantOpposite(x api.Entry) (api.Entry, api.Errno) {
	out := turn(x.Period, x.Reverses)
	for _, line := range x.Lines {
		amount, e := inRange(new(big.Int).Neg(big.NewInt(int64(line.Amount))))
		if e != api.OK {
			return api.Entry{}, e
		}
		out.Lines = append(out.Lines, ln(line.Entity, line.Account, line.Partner, amount))
	}
	return out, api.OK
}

func wantParts(x api.Entry) []api.Entry {
	var parts []api.Entry
	for _, entity := range wantEntities(x) {
		part := turn(x.Period, x.Reverses)
		for _, line := range x.Lines {
			if line.Entity == entity {
				part.Lines = append(part.Lines, line)
			}
		}
		parts = append(parts, part)
	}
	return parts
}

// Calls, of which what is told is held against what has to be, and what was handed in against what it was.

func tellsCheck(t *testing.T, x api.Entry, entities, accounts int) api.Errno {
	t.Helper()
	in := lend(x)
	at, e := Check(in.x, entities, accounts)
	if wantAt, want := wantCheck(x, entities, accounts); at != wantAt || e != want {
		t.Fatalf("Check(%v, %d, %d): %d, %v; not %d, %v", show(x), entities, accounts, at, e, wantAt, want)
	}
	in.look(t, "Check")
	return e
}

func tellsEntities(t *testing.T, x api.Entry) {
	t.Helper()
	in := lend(x)
	are, want := Entities(in.x), wantEntities(x)
	if !slices.Equal(are, want) {
		t.Fatalf("Entities(%v): %v, not %v", show(x), are, want)
	}
	in.look(t, "Entities")
	spoil(are, -99)
	in.look(t, "Entities, its answer written over")
	if are := Entities(in.x); !slices.Equal(are, want) {
		t.Fatalf("Entities(%v), an answer ahead written over: %v, not %v", show(x), are, want)
	}
}

func tellsTotal(t *testing.T, x api.Entry, entity int) {
	t.Helper()
	in := lend(x)
	n, e := Total(in.x, entity)
	if wantN, want := wantTotal(x, entity); n != wantN || e != want {
		t.Fatalf("Total(%v, %d): %d, %v; not %d, %v", show(x), entity, n, e, wantN, want)
	}
	in.look(t, "Total")
}

func tellsOpposite(t *testing.T, x api.Entry) api.Errno {
	t.Helper()
	in := lend(x)
	out, e := Opposite(in.x)
	want, wantE := wantOpposite(x)
	if !same(out, want) || e != wantE {
		t.Fatalf("Opposite(%v): %v, %v; not %v, %v", show(x), show(out), e, show(want), wantE)
	}
	in.look(t, "Opposite")
	spoil(out.Lines, odd())
	in.look(t, "Opposite, its answer written over")
	if out, e := Opposite(in.x); !same(out, want) || e != wantE {
		t.Fatalf("Opposite(%v), an answer ahead written over: %v, %v; not %v, %v", show(x), show(out), e, show(want), wantE)
	}
	return e
}

func tellsParts(t *testing.T, x api.Entry) {
	t.Helper()
	in := lend(x)
	parts, want := Parts(in.x), wantParts(x)
	if !slices.EqualFunc(parts, want, same) {
		t.Fatalf("Parts(%v): %v, not %v", show(x), parts, want)
	}
	in.look(t, "Parts")
	for at := range parts {
		_ = append(parts[at].Lines, odd(), odd())
		if !slices.EqualFunc(parts, want, same) {
			t.Fatalf("Parts(%v), two lines put behind those of part %d: %v, not %v", show(x), at, parts, want)
		}
		spoil(parts[at].Lines, odd())
		want[at].Lines = slices.Repeat([]api.Line{odd()}, len(want[at].Lines))
		if !slices.EqualFunc(parts, want, same) {
			t.Fatalf("Parts(%v), part %d written over: %v, not %v", show(x), at, parts, want)
		}
		in.look(t, "Parts, one of them written over")
	}
	spoil(parts, post(-99, odd()))
	in.look(t, "Parts, all of them written over")
	if parts, want := Parts(in.x), wantParts(x); !slices.EqualFunc(parts, want, same) {
		t.Fatalf("Parts(%v), an answer ahead written over: %v, not %v", show(x), parts, want)
	}
}

// tellsAll asks all that may be asked of an entry, and of a few entities beside its own.
func tellsAll(t *testing.T, x api.Entry, entities ...int) {
	t.Helper()
	tellsEntities(t, x)
	for _, entity := range append(wantEntities(x), entities...) {
		tellsTotal(t, x, entity)
	}
	tellsOpposite(t, x)
	tellsParts(t, x)
}

package account

import (
	"math/rand"
	"slices"
	"testing"

	"gavelkind/api"
)

// P20.1: the own accounts, each part of them, in new memory each time.
func TestNew(t *testing.T) {
	want := []api.Account{{Parent: 0, Kind: 1, Split: true, Partner: false}, {Parent: 0, Kind: 1, Split: false, Partner: false}, {Parent: 0, Kind: 1, Split: false, Partner: false}}
	one, two := New(), New()
	if !slices.Equal(one, want) || !slices.Equal(two, want) {
		t.Fatalf("New: %v, %v; not %v", one, two, want)
	}
	spoil(one, ac(-99, 99))
	if !slices.Equal(two, want) { // ahead of one more call, which might set it right again
		t.Fatalf("New, the first one written over: %v, not %v", two, want)
	}
	if three := New(); !slices.Equal(two, want) || !slices.Equal(three, want) {
		t.Fatalf("New anew, the first one written over: %v, %v; not %v", two, three, want)
	}
	if at, e := Check(two); at != 3 || e != api.OK {
		t.Fatalf("Check of the own accounts: %d, %v", at, e)
	}
}

// refuses looks at whether Check tells a place and an error, written out; and what the model tells.
func refuses(t *testing.T, l []api.Account, at int, e api.Errno) {
	t.Helper()
	if isAt, is := Check(l); isAt != at || is != e {
		t.Errorf("Check(%v): %d, %v; not %d, %v", show(l), isAt, is, at, e)
	}
	checks(t, l)
}

func accepts(t *testing.T, l []api.Account) {
	t.Helper()
	refuses(t, l, len(l), api.OK)
}

// P20.1: how many accounts there may be, and with a fault at the first place behind the own ones and at the last one.
func TestCheckHowMany(t *testing.T) {
	for _, few := range [][]api.Account{nil, {}, own()[:1], own()[:2], make([]api.Account, 1), make([]api.Account, 2), make([]api.Account, 3), own()[1:], bare(0), bare(0, 0, 0)} {
		refuses(t, few, 0, api.ErrOwn)
	}
	accepts(t, own())
	for many := 4; many <= 60; many++ {
		accepts(t, wide(many))
		accepts(t, chain(many))
		for _, at := range []int{3, many - 1} {
			refuses(t, with(wide(many), at, ac(many+1, 1)), at, api.ErrAccount)
			refuses(t, with(wide(many), at, ac(2, 1)), at, api.ErrOwn)
			refuses(t, with(wide(many), at, ac(0, 4)), at, api.ErrKind)
			refuses(t, with(wide(many), at, ac(at+1, 1)), at, api.ErrCircle)
		}
	}
	for _, many := range []int{61, 62, 120, 256, 316, 1 << 16, 1<<16 + 3} {
		refuses(t, wide(many), 0, api.ErrFull)
		refuses(t, chain(many), 0, api.ErrFull)
		refuses(t, make([]api.Account, many), 0, api.ErrFull)
		for _, at := range []int{0, 2, 3, many - 1} {
			refuses(t, with(wide(many), at, ac(-1, 9)), 0, api.ErrFull)
			refuses(t, with(wide(many), at, ac(at+1, 1)), 0, api.ErrFull)
		}
	}
}

// P20.1: rows whose first three are the own ones, but for one part of one of them.
func TestCheckOwn(t *testing.T) {
	numbers := append(far(), 1, 2, 3, 4, 5, 6, 59, 60)
	for _, l := range [][]api.Account{own(), of(0), of(0, 4, 0), wide(60)} {
		for at := range 3 {
			x := own()[at]
			for _, n := range append(numbers, len(l)) {
				refuses(t, with(l, at, full(n, 1, x.Split, false)), 0, api.ErrOwn)
				if n != 1 {
					refuses(t, with(l, at, full(0, n, x.Split, false)), 0, api.ErrOwn)
				}
			}
			refuses(t, with(l, at, full(0, 0, x.Split, false)), 0, api.ErrOwn)
			refuses(t, with(l, at, full(0, 1, !x.Split, false)), 0, api.ErrOwn)
			refuses(t, with(l, at, full(0, 1, x.Split, true)), 0, api.ErrOwn)
			refuses(t, with(l, at, full(0, 1, !x.Split, true)), 0, api.ErrOwn)
		}
		refuses(t, with(with(l, 0, own()[1]), 1, own()[0]), 0, api.ErrOwn)
		refuses(t, with(with(l, 0, own()[2]), 2, own()[0]), 0, api.ErrOwn)
		refuses(t, slices.Concat(l[1:], own()[:1]), 0, api.ErrOwn)
	}
}

// P20.1: each Parent, Kind, and whether it is Split and has Partners, of the account at each place of a row.
func TestCheckParts(t *testing.T) {
	for _, many := range []int{4, 5, 6, 9, 60} {
		l := append(own(), slices.Repeat([]api.Account{ac(0, 2)}, many-3)...)
		for at := 3; at < many; at++ {
			for _, parent := range append(far(), many+1, many+2, 1<<32+many) {
				refuses(t, with(l, at, ac(parent, 1)), at, api.ErrAccount)
			}
			for parent := 1; parent <= 3; parent++ {
				refuses(t, with(l, at, ac(parent, 1)), at, api.ErrOwn)
			}
			for parent := 4; parent <= many; parent++ {
				if parent == at+1 {
					refuses(t, with(l, at, ac(parent, 1)), at, api.ErrCircle)
					continue
				}
				accepts(t, with(l, at, ac(parent, 1)))
			}
			for _, kind := range append(far(), 0, 4, 5) {
				refuses(t, with(l, at, ac(0, kind)), at, api.ErrKind)
			}
			for kind := 1; kind <= 3; kind++ {
				accepts(t, with(l, at, full(0, kind, false, false)))
				accepts(t, with(l, at, full(0, kind, true, false)))
				accepts(t, with(l, at, full(0, kind, false, true)))
				refuses(t, with(l, at, full(0, kind, true, true)), at, api.ErrKind)
			}
		}
	}
}

// P20.1: of several errors at once the one that is named first.
func TestCheckFirst(t *testing.T) {
	for _, x := range []struct {
		l  []api.Account
		at int
		e  api.Errno
	}{
		// ErrFull ahead of ErrOwn, and of what is wrong behind
		{with(wide(61), 0, ac(0, 2)), 0, api.ErrFull},
		{slices.Repeat([]api.Account{full(-1, 9, true, true)}, 61), 0, api.ErrFull},
		// ErrOwn at 0 ahead of a later place's
		{with(of(-1, 2, 9), 0, ac(0, 1)), 0, api.ErrOwn},
		{with(of(-1, 2, 9), 2, ac(0, 2)), 0, api.ErrOwn},
		{with(of(4, 6, 5), 1, full(0, 1, true, false)), 0, api.ErrOwn},
		{with(of(0, 0), 1, ac(99, 1)), 0, api.ErrOwn},
		{with(of(0, 0), 2, ac(3, 0)), 0, api.ErrOwn},
		// of one account
		{with(of(0, 0), 3, ac(6, 0)), 3, api.ErrAccount},
		{with(of(0, 0), 3, ac(-1, 4)), 3, api.ErrAccount},
		{with(of(0, 0), 4, full(least, 1, true, true)), 4, api.ErrAccount},
		{with(of(0, 0), 3, ac(1, 0)), 3, api.ErrOwn},
		{with(of(0, 0), 4, ac(3, 4)), 4, api.ErrOwn},
		{with(of(0, 0), 4, full(2, 2, true, true)), 4, api.ErrOwn},
		{with(of(0, 0), 4, full(5, 2, true, true)), 4, api.ErrKind},
		{with(of(0, 0), 4, ac(5, 4)), 4, api.ErrKind},
		{with(of(0, 0), 3, full(0, 0, true, true)), 3, api.ErrKind},
		// the first one of several
		{with(of(0, 9, 2), 3, ac(0, 4)), 3, api.ErrKind},
		{with(of(0, 2, 9), 3, ac(0, 4)), 3, api.ErrKind},
		{of(0, 2, 9), 4, api.ErrOwn},
		{of(0, 9, 2), 4, api.ErrAccount},
		{with(of(0, 0, 7), 4, ac(1, 0)), 4, api.ErrOwn},
		// a wrong one, behind one that goes round, ahead of it, or among those that do
		{with(of(4, 0, 0), 5, ac(0, 4)), 5, api.ErrKind},
		{with(of(0, 4, 6), 4, ac(0, 0)), 4, api.ErrKind},
		{of(5, 4, 7), 5, api.ErrAccount},
		{of(5, 4, 1), 5, api.ErrOwn},
		{of(5, 4, -1), 5, api.ErrAccount},
		{of(2, 6, 5), 3, api.ErrOwn},
		{with(of(5, 6, 4), 5, ac(4, 4)), 5, api.ErrKind},
		{with(of(4, 5, 6), 5, full(6, 1, true, true)), 5, api.ErrKind},
	} {
		refuses(t, x.l, x.at, x.e)
	}
}

// P20.1: accounts that come back to themselves; those that have them above are not told.
func TestCheckCircle(t *testing.T) {
	for _, x := range []struct {
		parents []int
		at      int
		e       api.Errno
	}{
		{list(4), 3, api.ErrCircle},
		{list(0, 5), 4, api.ErrCircle},
		{list(5, 5), 4, api.ErrCircle},                // 4 is under 5
		{list(5, 6, 6), 5, api.ErrCircle},             // 4 and 5 are under 6
		{list(5, 4), 3, api.ErrCircle},                // two
		{list(0, 6, 5), 4, api.ErrCircle},             // two
		{list(6, 6, 5), 4, api.ErrCircle},             // two, and 4 under them
		{list(7, 0, 7, 6), 5, api.ErrCircle},          // two, and 4 under them
		{list(5, 6, 4), 3, api.ErrCircle},             // three
		{list(6, 4, 5), 3, api.ErrCircle},             // three
		{list(8, 6, 7, 5, 4), 3, api.ErrCircle},       // two and three
		{list(6, 7, 4, 8, 5), 3, api.ErrCircle},       // two and three
		{list(5, 6, 7, 8, 6), 5, api.ErrCircle},       // three, and 4 and 5 under them
		{list(0, 4, 5, 9, 7, 8, 9), 6, api.ErrCircle}, // three, with 10 under them
		{list(0, 4, 5, 8, 6), 8, api.OK},
		{list(8, 4, 5, 6, 0), 8, api.OK},
		{list(5, 6, 7, 8, 0), 8, api.OK},
	} {
		refuses(t, of(x.parents...), x.at, x.e)
		tellsAll(t, of(x.parents...))
	}
	for many := 4; many <= 60; many++ {
		l := chain(many)
		for a := 4; a <= many; a++ { // closed at the top: from 4 to a they go round, the others are under them
			refuses(t, under(l, 4, a), 3, api.ErrCircle)
			if a > 4 { // closed below the top: from a on they go round
				refuses(t, under(l, a, many), a-1, api.ErrCircle)
			}
		}
	}
}

// asked is a row, and what it has to tell of an account, written out.
type asked struct {
	a                   int
	children, up, under []int
	leaf                bool
}

func (x asked) look(t *testing.T, l []api.Account) {
	t.Helper()
	if children := Children(l, x.a); !slices.Equal(children, x.children) {
		t.Errorf("Children(%v, %d): %v, not %v", show(l), x.a, children, x.children)
	}
	if up := Up(l, x.a); !slices.Equal(up, x.up) {
		t.Errorf("Up(%v, %d): %v, not %v", show(l), x.a, up, x.up)
	}
	if under := Under(l, x.a); !slices.Equal(under, x.under) {
		t.Errorf("Under(%v, %d): %v, not %v", show(l), x.a, under, x.under)
	}
	if leaf := Leaf(l, x.a); leaf != x.leaf {
		t.Errorf("Leaf(%v, %d): %v, not %v", show(l), x.a, leaf, x.leaf)
	}
}

// looks asks a row of some accounts, and of all: its leaves, and its walk, as accounts and their depths.
func looks(t *testing.T, l []api.Account, leaves []int, walk []Node, some ...asked) {
	t.Helper()
	if is := Leaves(l); !slices.Equal(is, leaves) {
		t.Errorf("Leaves(%v): %v, not %v", show(l), is, leaves)
	}
	if is := Walk(l); !slices.Equal(is, walk) {
		t.Errorf("Walk(%v): %v, not %v", show(l), is, walk)
	}
	for _, x := range some {
		x.look(t, l)
	}
	tellsAll(t, l)
	for _, a := range far() {
		asked{a, nil, nil, nil, false}.look(t, l)
		tells(t, l, a)
	}
}

// P20.2, P20.6: what is told of accounts that may be, written out: Leaves and Under rise, Up comes the nearest one first, whatever the order of the accounts is.
func TestTrees(t *testing.T) {
	looks(t, own(), list(1, 2, 3), []Node{{1, 0}, {2, 0}, {3, 0}},
		asked{1, nil, nil, list(1), true},
		asked{2, nil, nil, list(2), true},
		asked{3, nil, nil, list(3), true},
		asked{0, nil, nil, nil, false},
		asked{4, nil, nil, nil, false})
	looks(t, of(0, 4, 4), list(1, 2, 3, 5, 6), []Node{{1, 0}, {2, 0}, {3, 0}, {4, 0}, {5, 1}, {6, 1}}, // the chapter's example
		asked{4, list(5, 6), nil, list(5, 6), false},
		asked{5, nil, list(4), list(5), true},
		asked{6, nil, list(4), list(6), true},
		asked{7, nil, nil, nil, false})
	// 10 above 4, 8 and 9, 4 above 6 and 11, 11 above 5, 8 above 12; 7 and 13 by themselves, 13 above 14
	looks(t, of(10, 11, 4, 0, 10, 10, 0, 4, 8, 0, 13), list(1, 2, 3, 5, 6, 7, 9, 12, 14),
		[]Node{{1, 0}, {2, 0}, {3, 0}, {7, 0}, {10, 0}, {4, 1}, {6, 2}, {11, 2}, {5, 3}, {8, 1}, {12, 2}, {9, 1}, {13, 0}, {14, 1}},
		asked{4, list(6, 11), list(10), list(5, 6), false},
		asked{5, nil, list(11, 4, 10), list(5), true},
		asked{6, nil, list(4, 10), list(6), true},
		asked{7, nil, nil, list(7), true},
		asked{8, list(12), list(10), list(12), false},
		asked{9, nil, list(10), list(9), true},
		asked{10, list(4, 8, 9), nil, list(5, 6, 9, 12), false},
		asked{11, list(5), list(4, 10), list(5), false},
		asked{12, nil, list(8, 10), list(12), true},
		asked{13, list(14), nil, list(14), false},
		asked{14, nil, list(13), list(14), true},
		asked{15, nil, nil, nil, false},
		asked{0, nil, nil, nil, false})
}

// P20.2, P20.6: what is told of accounts that may not be, written out: few of them, circles, and Parents that are no accounts.
func TestOddRows(t *testing.T) {
	looks(t, nil, nil, nil, asked{1, nil, nil, nil, false}, asked{0, nil, nil, nil, false})
	looks(t, bare(0), list(1), []Node{{1, 0}}, asked{1, nil, nil, list(1), true})
	looks(t, bare(0, 1, 2), list(3), []Node{{1, 0}, {2, 1}, {3, 2}},
		asked{1, list(2), nil, list(3), false},
		asked{2, list(3), list(1), list(3), false},
		asked{3, nil, list(2, 1), list(3), true})
	looks(t, bare(1), nil, nil, asked{1, list(1), nil, nil, false}) // its own Parent
	looks(t, bare(2), list(1), nil, asked{1, nil, nil, list(1), true}, asked{2, nil, nil, nil, false})
	looks(t, bare(-1, 0, 3, 5, most), list(1, 2, 4), []Node{{2, 0}},
		asked{1, nil, nil, list(1), true},
		asked{2, nil, nil, list(2), true},
		asked{3, list(3), nil, nil, false},
		asked{4, nil, list(5), list(4), true},
		asked{5, list(4), nil, list(4), false})
	looks(t, bare(2, 1), nil, nil, asked{1, list(2), list(2), nil, false}, asked{2, list(1), list(1), nil, false})
	// 2, 3 and 4 go round, 1 and 6 are under them, 5 is under 6; 7 is under 8, which is under none that is there, as are 9 and 10
	looks(t, bare(2, 3, 4, 2, 6, 4, 8, 11, least, -8), list(1, 5, 7, 9, 10), nil,
		asked{1, nil, list(2, 3, 4), list(1), true},
		asked{2, list(1, 4), list(3, 4), list(1, 5), false},
		asked{3, list(2), list(4, 2), list(1, 5), false},
		asked{4, list(3, 6), list(2, 3), list(1, 5), false},
		asked{5, nil, list(6, 4, 2, 3), list(5), true},
		asked{6, list(5), list(4, 2, 3), list(5), false},
		asked{7, nil, list(8), list(7), true},
		asked{8, list(7), nil, list(7), false},
		asked{9, nil, nil, list(9), true},
		asked{10, nil, nil, list(10), true})
	// 4 is its own Parent, with 1 under it; 2 is under 5, 3 is under 2
	looks(t, bare(4, 5, 2, 4, 0), list(1, 3), []Node{{5, 0}, {2, 1}, {3, 2}},
		asked{1, nil, list(4), list(1), true},
		asked{2, list(3), list(5), list(3), false},
		asked{3, nil, list(2, 5), list(3), true},
		asked{4, list(1, 4), nil, list(1), false},
		asked{5, list(2), nil, list(3), false})
}

// P20.2, P20.6: chains of 57 behind the own accounts, whose accounts rise, fall, or stand in no order; also such as go round from some account on.
func TestChains(t *testing.T) {
	for _, step := range []int{1, 57, 7, 25} { // as these have no divisor in common with 58, the numbers by such a step are all from 1 to 57
		var line []int // from the top downward
		for i := 1; i <= 57; i++ {
			line = append(line, 3+i*step%58)
		}
		parents := make([]int, 57)
		walk := []Node{{1, 0}, {2, 0}, {3, 0}, {line[0], 0}}
		for i, a := range line[1:] {
			parents[a-4] = line[i]
			walk = append(walk, Node{a, i + 1})
		}
		l, lowest := of(parents...), line[56]
		all := []asked{{lowest, nil, back(line[:56]), list(lowest), true}}
		for i, a := range line[:56] {
			all = append(all, asked{a, line[i+1 : i+2], back(line[:i]), list(lowest), false})
		}
		accepts(t, l)
		looks(t, l, list(1, 2, 3, lowest), walk, all...)
		for i, a := range line[:56] {
			leaves := list(1, 2, 3)
			if i > 0 {
				leaves = append(leaves, line[i-1])
			}
			looks(t, under(l, a, lowest), leaves, walk[:3+i],
				asked{a, line[i+1 : i+2], back(line[i+1:]), nil, false},
				asked{lowest, list(a), back(line[i:56]), nil, false})
		}
	}
}

// back is a list the other way round.
func back(l []int) []int {
	l = slices.Clone(l)
	slices.Reverse(l)
	return l
}

// P20.2, P20.6: rows of more accounts than may be are told like any others, and in time.
func TestLongRows(t *testing.T) {
	const many = 300000
	line, star := make([]api.Account, many), make([]api.Account, many)
	lineWalk, starWalk := make([]Node, many), make([]Node, many)
	for at := range many {
		line[at], lineWalk[at] = ac(at, 1), Node{at + 1, at}
		star[at], starWalk[at] = ac(many, 1), Node{at, 1}
	}
	star[many-1], starWalk[0] = ac(0, 1), Node{many, 0}
	all := upTo(1, many-1)
	for _, x := range []struct {
		l      []api.Account
		leaves []int
		walk   []Node
		some   []asked
	}{
		{line, list(many), lineWalk, []asked{{1, list(2), nil, list(many), false}, {many, nil, back(all), list(many), true}}},
		{star, all, starWalk, []asked{{many, all, nil, all, false}, {1, nil, list(many), list(1), true}}},
		{under(line, 1, many), nil, nil, []asked{{1, list(2), back(upTo(2, many)), nil, false}, {many, list(1), back(all), nil, false}}},
	} {
		if is := Leaves(x.l); !slices.Equal(is, x.leaves) {
			t.Errorf("Leaves(%v): %d, not %d", show(x.l), len(is), len(x.leaves))
		}
		if is := Walk(x.l); !slices.Equal(is, x.walk) {
			t.Errorf("Walk(%v): %d, not %d", show(x.l), len(is), len(x.walk))
		}
		for _, one := range x.some {
			one.look(t, x.l)
		}
	}
}

// each tells all rows of so many Parents from one number to another one.
func each(count, from, to int, tell func(parents []int)) {
	parents := slices.Repeat(list(from), count)
	for {
		tell(parents)
		at := 0
		for at < count && parents[at] == to {
			parents[at] = from
			at++
		}
		if at == count {
			return
		}
		parents[at]++
	}
}

// P20.2, P20.3, P20.6: all rows of up to 5 accounts, of which the first ones are not the own ones, and all moves in them.
func TestAllSmallRows(t *testing.T) {
	for count := range 6 {
		to := count + 1
		if count == 5 {
			to = 5
		}
		each(count, 0, to, func(parents []int) {
			l := bare(parents...)
			tellsAll(t, l)
			checks(t, l)
			for a := -1; a <= count+1; a++ {
				for parent := -1; parent <= count+1; parent++ {
					moves(t, l, a, parent)
				}
			}
		})
	}
}

// P20.1, P20.2, P20.3, P20.6: all rows of the own accounts and up to 4 behind them, and all moves in those that may be.
func TestAllSmallTrees(t *testing.T) {
	for count := range 5 {
		trees := 0
		each(count, 2, count+4, func(parents []int) {
			for at, parent := range parents { // 2 stands for none, 3 for an own one
				if parent == 2 {
					parents = with(parents, at, 0)
				}
			}
			l := of(parents...)
			checks(t, l)
			if _, e := Check(l); e != api.OK {
				return
			}
			trees++
			tellsAll(t, l)
			for a := -1; a <= count+4; a++ {
				for parent := -1; parent <= count+4; parent++ {
					moves(t, l, a, parent)
				}
			}
		})
		if want := list(1, 1, 3, 16, 125)[count]; trees != want {
			t.Errorf("%d trees of %d accounts behind the own ones, not %d", trees, count, want)
		}
	}
}

// P20.3: what Add tells, written out: each error, and of several at once the one that is named first.
func TestAdd(t *testing.T) {
	for _, x := range []struct {
		l []api.Account
		x api.Account
		e api.Errno
	}{
		{own(), ac(0, 1), api.OK},
		{own(), full(0, 2, true, false), api.OK},
		{own(), full(0, 3, false, true), api.OK},
		{own(), ac(4, 1), api.ErrAccount}, // it is not there yet
		{own(), ac(5, 1), api.ErrAccount},
		{own(), ac(-1, 1), api.ErrAccount},
		{own(), ac(1, 1), api.ErrOwn},
		{own(), ac(2, 1), api.ErrOwn},
		{own(), ac(3, 1), api.ErrOwn},
		{own(), ac(0, 0), api.ErrKind},
		{own(), ac(0, 4), api.ErrKind},
		{own(), full(0, 1, true, true), api.ErrKind},
		{of(0, 4), ac(4, 2), api.OK},
		{of(0, 4), ac(5, 2), api.OK},
		{of(0, 4), ac(6, 2), api.ErrAccount},
		{of(0, 4), ac(most, 2), api.ErrAccount},
		{of(0, 4), ac(least, 2), api.ErrAccount},
		{of(0, 4), ac(5, most), api.ErrKind},
		{of(0, 4), ac(5, least), api.ErrKind},
		{of(0, 4), full(5, 3, true, true), api.ErrKind},
		{of(0, 4), ac(6, 0), api.ErrAccount},
		{of(0, 4), full(-1, 1, true, true), api.ErrAccount},
		{of(0, 4), ac(3, 0), api.ErrOwn},
		{of(0, 4), full(1, 1, true, true), api.ErrOwn},
		{wide(58), ac(58, 1), api.OK},
		{wide(58), ac(59, 1), api.ErrAccount},
		{wide(59), ac(0, 1), api.OK},
		{wide(59), ac(59, 1), api.OK},
		{wide(59), ac(60, 1), api.ErrAccount},
		{wide(60), ac(0, 1), api.ErrFull},
		{wide(60), ac(61, 1), api.ErrFull},
		{wide(60), ac(1, 1), api.ErrFull},
		{wide(60), full(-1, 9, true, true), api.ErrFull},
		{wide(61), ac(0, 1), api.ErrFull},
		{wide(61), ac(99, 0), api.ErrFull},
		// accounts that may not be are taken as they are
		{nil, ac(0, 1), api.OK},
		{nil, ac(1, 1), api.ErrAccount},
		{nil, ac(3, 0), api.ErrAccount},
		{own()[:1], ac(1, 1), api.ErrOwn},
		{own()[:1], ac(2, 1), api.ErrAccount},
		{own()[:2], ac(3, 1), api.ErrAccount},
		{own()[:2], ac(2, 9), api.ErrOwn},
		{bare(1, 2, 3, 9), ac(4, 1), api.OK},
		{bare(2, 1, -1, 4), ac(0, 1), api.OK},
		{make([]api.Account, 59), ac(0, 1), api.OK},
		{make([]api.Account, 60), ac(0, 1), api.ErrFull},
	} {
		out, e := Add(x.l, x.x)
		if e != x.e || e != api.OK && len(out) != 0 || e == api.OK && !slices.Equal(out, append(slices.Clone(x.l), x.x)) {
			t.Errorf("Add(%v, %v): %v, %v; not %v", show(x.l), x.x, out, e, x.e)
		}
		adds(t, x.l, x.x)
	}
}

// P20.3: accounts with each Parent, Kind, Split and Partner, to rows of each length, also to such as may not be.
func TestAddToEach(t *testing.T) {
	parents := append(far(), upTo(0, 5)...)
	kinds := append(far(), upTo(0, 5)...)
	for many := range 64 {
		rows := [][]api.Account{make([]api.Account, many), slices.Repeat(bare(most), many)}
		if many >= 3 {
			rows = append(rows, wide(many), chain(many))
		}
		for _, l := range rows {
			for _, parent := range append(parents, many-1, many, many+1) {
				for kind := range 5 {
					adds(t, l, full(parent, kind, false, false))
					adds(t, l, full(parent, kind, true, true))
				}
				adds(t, l, full(parent, 2, true, false))
				adds(t, l, full(parent, 3, false, true))
			}
			for _, kind := range kinds {
				adds(t, l, ac(0, kind))
				adds(t, l, ac(-1, kind))
				adds(t, l, full(many, kind, true, false))
			}
		}
	}
}

// P20.3: what Move tells, written out: each error, and of several at once the one that is named first.
func TestMove(t *testing.T) {
	l := of(0, 4, 5, 4, 0, 8) // 4 above 5 and 7, 5 above 6, 8 above 9
	round := of(5, 4, 4, 6, 0, 9)
	for _, x := range []struct {
		l         []api.Account
		a, parent int
		e         api.Errno
	}{
		{l, 5, 7, api.OK},
		{l, 5, 0, api.OK},
		{l, 5, 4, api.OK}, // to its own Parent
		{l, 4, 0, api.OK},
		{l, 5, 9, api.OK},
		{l, 4, 9, api.OK},
		{l, 6, 4, api.OK},
		{l, 9, 6, api.OK},
		{l, 6, 9, api.OK},
		{l, 4, 4, api.ErrCircle}, // to itself
		{l, 9, 9, api.ErrCircle},
		{l, 4, 5, api.ErrCircle}, // to one below it
		{l, 4, 7, api.ErrCircle},
		{l, 4, 6, api.ErrCircle},
		{l, 5, 6, api.ErrCircle},
		{l, 8, 9, api.ErrCircle},
		{l, 1, 4, api.ErrOwn},
		{l, 2, 0, api.ErrOwn},
		{l, 3, 3, api.ErrOwn},
		{l, 3, 1, api.ErrOwn},
		{l, 4, 1, api.ErrOwn},
		{l, 4, 2, api.ErrOwn},
		{l, 9, 3, api.ErrOwn},
		{l, 0, 4, api.ErrAccount},
		{l, 0, 0, api.ErrAccount},
		{l, 10, 4, api.ErrAccount},
		{l, 10, 10, api.ErrAccount},
		{l, 4, 10, api.ErrAccount},
		{l, 4, -1, api.ErrAccount},
		{l, -1, 4, api.ErrAccount},
		{l, 4, most, api.ErrAccount},
		{l, 4, least, api.ErrAccount},
		{l, most, 4, api.ErrAccount},
		{l, least, 4, api.ErrAccount},
		{l, 0, 1, api.ErrAccount},
		{l, 10, 3, api.ErrAccount},
		{l, 1, 10, api.ErrAccount},
		{l, 2, -1, api.ErrAccount},
		// accounts that may not be are taken as they are
		{nil, 1, 0, api.ErrAccount},
		{nil, 4, 0, api.ErrAccount},
		{nil, 0, 0, api.ErrAccount},
		{bare(0, 0), 1, 0, api.ErrOwn},
		{bare(0, 0), 1, 2, api.ErrOwn},
		{bare(0, 0), 1, 3, api.ErrAccount},
		{bare(0, 0), 3, 0, api.ErrAccount},
		{bare(0, 0, 0, 0), 4, 0, api.OK},
		{bare(0, 0, 0, 9), 4, 0, api.OK},
		{bare(0, 0, 0, 0, -7), 4, 5, api.OK},
		{bare(0, 0, 0, 4, 4), 4, 0, api.OK},
		{bare(0, 0, 0, 4, 4), 5, 4, api.OK}, // 4 goes round, and does not come to 5
		{bare(0, 0, 0, 4, 4), 4, 5, api.ErrCircle},
		{round, 4, 0, api.OK}, // 4 and 5 go round, 6 and 7 are under them, 9 is its own Parent
		{round, 5, 0, api.OK},
		{round, 4, 8, api.OK},
		{round, 4, 9, api.OK},
		{round, 8, 4, api.OK},
		{round, 6, 5, api.OK},
		{round, 9, 0, api.OK},
		{round, 9, 7, api.OK},
		{round, 4, 5, api.ErrCircle}, // its own Parent, which has it above
		{round, 5, 4, api.ErrCircle},
		{round, 4, 7, api.ErrCircle},
		{round, 5, 7, api.ErrCircle},
		{round, 6, 7, api.ErrCircle},
		{round, 9, 9, api.ErrCircle},
		{wide(61), 61, 60, api.OK},
		{chain(300), 300, 4, api.OK},
		{chain(300), 4, 300, api.ErrCircle},
		{chain(300), 300, 301, api.ErrAccount},
	} {
		out, e := Move(x.l, x.a, x.parent)
		if e != x.e || e != api.OK && len(out) != 0 || e == api.OK && !slices.Equal(out, under(x.l, x.a, x.parent)) {
			t.Errorf("Move(%v, %d, %d): %v, %v; not %v", show(x.l), x.a, x.parent, out, e, x.e)
		}
		moves(t, x.l, x.a, x.parent)
	}
}

// P20.3: far numbers, as accounts and as Parents, of rows of each length.
func TestMoveFar(t *testing.T) {
	for many := range 63 {
		rows := [][]api.Account{make([]api.Account, many)}
		if many >= 3 {
			rows = append(rows, wide(many), chain(many))
		}
		for _, l := range rows {
			numbers := append(far(), 0, 1, 3, 4, 5, many-1, many, many+1, many+4)
			for _, a := range numbers {
				for _, parent := range numbers {
					moves(t, l, a, parent)
				}
			}
		}
	}
}

// P20.1 to P20.3, P20.6: each answer is new memory: what is written over it changes no other one, and none behind it.
func TestNewMemory(t *testing.T) {
	l := of(10, 11, 4, 0, 10, 10, 0, 4, 8, 0, 13)
	was := slices.Clone(l)
	for name, call := range map[string]func() []int{
		"Children": func() []int { return Children(l, 10) },
		"Leaves":   func() []int { return Leaves(l) },
		"Up":       func() []int { return Up(l, 5) },
		"Under":    func() []int { return Under(l, 10) },
	} {
		twice(t, name, call, -99)
	}
	twice(t, "New", New, ac(-99, 99))
	twice(t, "Walk", func() []Node { return Walk(l) }, Node{-99, -99})
	twice(t, "Add", func() []api.Account { return answer(Add(l, ac(5, 2))) }, ac(-99, 99))
	twice(t, "Move", func() []api.Account { return answer(Move(l, 4, 13)) }, ac(-99, 99))
	twice(t, "Move to where it is", func() []api.Account { return answer(Move(l, 4, 10)) }, ac(-99, 99))
	if !slices.Equal(l, was) {
		t.Errorf("of the row %v the calls made %v", was, l)
	}
}

func answer(l []api.Account, e api.Errno) []api.Account { return l }

// twice makes a call twice, and then once more, and writes over the first answer meanwhile.
func twice[T comparable](t *testing.T, name string, call func() []T, odd T) {
	t.Helper()
	one, two := call(), call()
	want := slices.Clone(one)
	if len(want) == 0 || !slices.Equal(two, want) {
		t.Fatalf("%s: %v, then %v", name, one, two)
	}
	spoil(one, odd)
	if !slices.Equal(two, want) { // ahead of one more call, which might set it right again
		t.Errorf("%s, the first answer written over: %v, not %v", name, two, want)
	}
	if three := call(); !slices.Equal(two, want) || !slices.Equal(three, want) {
		t.Errorf("%s anew, the first answer written over: %v, %v; not %v", name, two, three, want)
	}
}

// P20.3: rows that are added to the same one, with much spare room, or moved in it, do not touch one another, nor it, nor its spare room; what becomes of it does not touch them.
func TestAddToTheSame(t *testing.T) {
	whole := slices.Repeat([]api.Account{ac(-7, 7)}, 100)
	for many := 5; many < 60; many++ {
		copy(whole, wide(many))
		was := slices.Clone(whole)
		l := whole[:many]
		one, two := answer(Add(l, ac(4, 1))), answer(Add(l, ac(5, 2)))
		three := answer(Move(l, many, 0))
		wantTwo, wantThree := append(wide(many), ac(5, 2)), under(wide(many), many, 0)
		if !slices.Equal(one, append(wide(many), ac(4, 1))) || !slices.Equal(two, wantTwo) || !slices.Equal(three, wantThree) {
			t.Fatalf("two Adds and a Move of %v: %v, %v, %v", show(l), one, two, three)
		}
		spoil(one, ac(-99, 99))
		if !slices.Equal(two, wantTwo) || !slices.Equal(three, wantThree) || !slices.Equal(whole, was) {
			t.Fatalf("two Adds and a Move, the first one written over: %v, %v; and in that row %v", two, three, show(whole))
		}
		spoil(whole, ac(-7, 7))
		if !slices.Equal(two, wantTwo) || !slices.Equal(three, wantThree) {
			t.Fatalf("two Adds and a Move of a row of %d, that one written over: %v, %v", many, two, three)
		}
	}
}

// drawnParent is a number that is mostly an account of so many, or none.
func drawnParent(r *rand.Rand, many int) int {
	switch r.Intn(12) {
	case 0:
		return 0
	case 1:
		return r.Intn(many+6) - 2
	}
	if many > 3 && r.Intn(9) > 0 {
		return 4 + r.Intn(many-3)
	}
	return r.Intn(many + 1)
}

// drawnAccount is an account that may mostly be.
func drawnAccount(r *rand.Rand, many int) api.Account {
	x := full(drawnParent(r, many), 1+r.Intn(3), r.Intn(3) == 0, false)
	if !x.Split {
		x.Partner = r.Intn(2) == 0
	}
	switch r.Intn(60) {
	case 0:
		x.Kind = r.Intn(6)
	case 1:
		x.Split, x.Partner = true, true
	case 2:
		x.Kind = far()[r.Intn(len(far()))]
	case 3:
		x.Parent = far()[r.Intn(len(far()))]
	}
	return x
}

// grown is a row that comes of Adds and Moves, as the model has them: it may be.
func grown(r *rand.Rand, many int) []api.Account {
	l := own()
	for len(l) < many {
		if m, e := wantAdd(l, drawnAccount(r, len(l))); e == api.OK {
			l = m
		}
		if m, e := wantMove(l, r.Intn(len(l)+1), drawnParent(r, len(l))); e == api.OK {
			l = m
		}
	}
	return l
}

// drawnLength is how long a row is: mostly short, sometimes as long as it may be.
func drawnLength(r *rand.Rand) int {
	return []int{3 + r.Intn(8), 3 + r.Intn(20), 3 + r.Intn(58), 60}[r.Intn(4)]
}

// P20.1 to P20.3, P20.6: drawn calls. (The draw is the same each time.)
func TestDrawn(t *testing.T) {
	r := rand.New(rand.NewSource(1))
	for range 1000 {
		l := grown(r, drawnLength(r))
		many := len(l)
		tellsAll(t, l)
		checks(t, l)
		spoilt := l
		for range 1 + r.Intn(3) {
			spoilt = with(spoilt, r.Intn(many), drawnAccount(r, many))
			checks(t, spoilt)
		}
		tellsAll(t, spoilt)
		for range 20 {
			adds(t, l, drawnAccount(r, many))
			adds(t, spoilt, drawnAccount(r, many))
			moves(t, l, drawnParent(r, many), drawnParent(r, many))
			moves(t, spoilt, drawnParent(r, many), drawnParent(r, many))
		}
	}
}

// P20.1 to P20.3, P20.6: drawn rows that are hardly ever such as may be, of which many go round.
func TestDrawnOdd(t *testing.T) {
	r := rand.New(rand.NewSource(2))
	for range 3000 {
		l := make([]api.Account, r.Intn([]int{6, 15, 70}[r.Intn(3)]))
		for at := range l {
			l[at] = drawnAccount(r, len(l))
		}
		if len(l) >= 3 && r.Intn(2) == 0 {
			copy(l, own())
		}
		checks(t, l)
		tellsAll(t, l)
		for range 10 {
			adds(t, l, drawnAccount(r, len(l)))
			moves(t, l, drawnParent(r, len(l)), drawnParent(r, len(l)))
		}
	}
}

// drawn are rows that may be, to be asked by the program's own calls alone.
func drawn(t *testing.T, count int, seed int64, look func(r *rand.Rand, l []api.Account)) {
	t.Helper()
	r := rand.New(rand.NewSource(seed))
	for range count {
		l := grown(r, drawnLength(r))
		if at, e := Check(l); at != len(l) || e != api.OK {
			t.Fatalf("Check(%v): %d, %v", show(l), at, e)
		}
		look(r, l)
	}
}

// P20.4: a leaf is Under itself and all its Up, and nothing else; what is Under an account that is no leaf is Under one of its Children, and of these just one.
func TestLeavesOf(t *testing.T) {
	drawn(t, 300, 3, func(r *rand.Rand, l []api.Account) {
		leaves := Leaves(l)
		for a := 1; a <= len(l); a++ {
			under := Under(l, a)
			if Leaf(l, a) != slices.Contains(leaves, a) || Leaf(l, a) != (len(Children(l, a)) == 0) {
				t.Fatalf("%v: the leaves %v; Leaf of %d: %v; its Children %v", show(l), leaves, a, Leaf(l, a), Children(l, a))
			}
			for _, leaf := range leaves {
				if is := slices.Contains(under, leaf); is != (leaf == a || slices.Contains(Up(l, leaf), a)) {
					t.Fatalf("%v: Under %d: %v; Up of %d: %v", show(l), a, under, leaf, Up(l, leaf))
				}
			}
			if Leaf(l, a) {
				if !slices.Equal(under, list(a)) {
					t.Fatalf("%v: Under the leaf %d: %v", show(l), a, under)
				}
				continue
			}
			var all []int
			for _, child := range Children(l, a) {
				all = append(all, Under(l, child)...)
			}
			slices.Sort(all)
			if !slices.Equal(under, all) || len(all) == 0 {
				t.Fatalf("%v: Under %d: %v; Under its Children: %v", show(l), a, under, all)
			}
		}
	})
}

// P20.5: of accounts that may be Add and Move tell accounts that may be, the same but for that one; Move refuses a circle just where there would be one.
func TestStays(t *testing.T) {
	drawn(t, 600, 4, func(r *rand.Rand, l []api.Account) {
		x := drawnAccount(r, len(l))
		if out, e := Add(l, x); e == api.OK {
			if at, f := Check(out); at != len(l)+1 || f != api.OK || !slices.Equal(out[:len(l)], l) || out[len(l)] != x {
				t.Fatalf("Add(%v, %v): %v, of which Check tells %d, %v", show(l), x, show(out), at, f)
			}
		} else if at, f := Check(append(slices.Clone(l), x)); f == api.OK {
			t.Fatalf("Add(%v, %v): %v, with which Check tells %d, %v", show(l), x, e, at, f)
		}
		for range 20 {
			a, parent := 1+r.Intn(len(l)), drawnParent(r, len(l))
			at, f := Check(under(l, a, parent))
			out, e := Move(l, a, parent)
			switch {
			case e != f && (f != api.ErrOwn && e != api.ErrOwn):
				t.Fatalf("Move(%v, %d, %d): %v; Check tells %d, %v", show(l), a, parent, e, at, f)
			case e == api.OK && !slices.Equal(out, under(l, a, parent)):
				t.Fatalf("Move(%v, %d, %d): %v", show(l), a, parent, show(out))
			}
		}
	})
}

// P20.7: Walk tells each account once, with as many Up as its depth says, and behind its Parent; right behind one come all that are under it.
func TestWalks(t *testing.T) {
	drawn(t, 400, 5, func(r *rand.Rand, l []api.Account) {
		nodes := Walk(l)
		at := make([]int, len(l)+1)
		for i, node := range nodes {
			if node.Account < 1 || node.Account > len(l) || at[node.Account] != 0 {
				t.Fatalf("Walk(%v): %v", show(l), nodes)
			}
			at[node.Account] = i + 1
		}
		if len(nodes) != len(l) {
			t.Fatalf("Walk(%v): %v", show(l), nodes)
		}
		for i, node := range nodes {
			up := Up(l, node.Account)
			if len(up) != node.Depth || node.Depth > 0 && at[up[0]] >= i+1 {
				t.Fatalf("Walk(%v): %v, where Up of %v are %v", show(l), nodes, node, up)
			}
			if i == 0 {
				continue
			}
			last := nodes[i-1]
			if node.Depth > last.Depth+1 || node.Depth == last.Depth+1 && up[0] != last.Account {
				t.Fatalf("Walk(%v): %v right behind %v", show(l), node, last)
			}
		}
		for a := 1; a < len(l); a++ { // those with the same Parent rise
			for b := a + 1; b <= len(l); b++ {
				if l[a-1].Parent == l[b-1].Parent && at[a] > at[b] {
					t.Fatalf("Walk(%v): %v, where %d is behind %d", show(l), nodes, a, b)
				}
			}
		}
	})
}

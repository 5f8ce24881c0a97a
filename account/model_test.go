package account

import (
	"math"
	"slices"
	"testing"

	"gavelkind/api"
)

const most, least = math.MaxInt, math.MinInt

// far are numbers that are neither accounts nor kinds; some of them look like one, if bits are cut off.
func far() []int {
	return []int{-1, -2, -3, -4, -60, 61, 62, 256, 257, 260, 1 << 16, 1<<16 + 4, 1 << 32, 1<<32 + 1, 1<<32 + 4, -1<<32 + 1, -1<<32 + 4, least, least + 1, least + 4, most - 4, most - 1, most}
}

// ac is an account that is neither split nor has partners.
func ac(parent, kind int) api.Account { return api.Account{Parent: parent, Kind: kind} }

// full is an account with all its parts.
func full(parent, kind int, split, partner bool) api.Account {
	return api.Account{Parent: parent, Kind: kind, Split: split, Partner: partner}
}

// own are the cube's own accounts, written out.
func own() []api.Account {
	return []api.Account{full(0, 1, true, false), full(0, 1, false, false), full(0, 1, false, false)}
}

// bare are accounts with these Parents, and other parts that may be, but for the first ones, which are not the own ones.
func bare(parents ...int) []api.Account {
	l := make([]api.Account, len(parents))
	for at, parent := range parents {
		l[at] = full(parent, at%3+1, at%4 == 1, at%4 == 2)
	}
	return l
}

// of are the own accounts, and behind them those with these Parents: the first one is account 4.
func of(parents ...int) []api.Account { return append(own(), bare(parents...)...) }

// wide are so many accounts that may be, 3 or more: the own ones, and behind them some that are under none, 4 or 5.
func wide(many int) []api.Account {
	parents := make([]int, many-3)
	for at := range parents {
		if at > 1 {
			parents[at] = []int{4, 0, 5}[at%3]
		}
	}
	return of(parents...)
}

// chain are so many accounts that may be, 3 or more: the own ones, and behind them 4 above 5, that above 6, and so on.
func chain(many int) []api.Account {
	parents := make([]int, many-3)
	for at := range parents {
		if at > 0 {
			parents[at] = at + 3
		}
	}
	return of(parents...)
}

// with is a row that has another thing at a place.
func with[T any](l []T, at int, x T) []T {
	l = slices.Clone(l)
	l[at] = x
	return l
}

// under is a row in which an account, by its number, has another Parent.
func under(l []api.Account, a, parent int) []api.Account {
	x := l[a-1]
	x.Parent = parent
	return with(l, a-1, x)
}

func list(n ...int) []int { return n }

// upTo are the numbers from one to another one.
func upTo(from, to int) []int {
	var l []int
	for n := from; n <= to; n++ {
		l = append(l, n)
	}
	return l
}

// show tells a row for a fault's text: of a long one its ends.
func show(l []api.Account) any {
	if len(l) <= 60 {
		return l
	}
	return []any{len(l), l[:10], l[len(l)-10:]}
}

// spoil writes over all of an answer, its spare room, too: that is its owner's to do.
func spoil[T any](l []T, odd T) {
	l = l[:cap(l)]
	for i := range l {
		l[i] = odd
	}
}

// lent is a row that is handed in, and how all of it was, its spare room, too.
type lent struct {
	whole, was []api.Account
	many       int
}

func lend(l []api.Account) lent {
	whole := slices.Concat(l, []api.Account{ac(1, 7), ac(-9, 0), full(4, 1, true, true), ac(len(l), 1)})
	return lent{whole, slices.Clone(whole), len(l)}
}

func (l lent) row() []api.Account { return l.whole[:l.many] }

// look looks at whether what was lent is as it was.
func (l lent) look(t *testing.T, call string) {
	t.Helper()
	if !slices.Equal(l.whole, l.was) {
		t.Fatalf("%s: of the row %v, and its spare room, it made %v", call, show(l.was), show(l.whole))
	}
}

// What has to be told, by the chapter's words.

func isThere(l []api.Account, a int) bool {
	for at := range l {
		if at+1 == a {
			return true
		}
	}
	return false
}

func wantChildren(l []api.Account, a int) []int {
	var children []int
	for at, x := range l {
		if x.Parent == a && isThere(l, a) {
			children = append(children, at+1)
		}
	}
	return children
}

func wantLeaf(l []api.Account, a int) bool {
	for _, x := range l {
		if x.Parent == a {
			return false
		}
	}
	return isThere(l, a)
}

func wantUp(l []api.Account, a int) []int {
	var up []int
	if !isThere(l, a) {
		return nil
	}
	for next := l[a-1].Parent; isThere(l, next); next = l[next-1].Parent {
		if next == a || slices.Contains(up, next) {
			break
		}
		up = append(up, next)
	}
	return up
}

// wantUnder tells the leaves of a row that are a, or have a among their Up; there may be none.
func wantUnder(l []api.Account, a int) []int {
	var leaves []int
	for at := range l {
		leaf := at + 1
		if wantLeaf(l, leaf) && (leaf == a || slices.Contains(wantUp(l, leaf), a)) {
			leaves = append(leaves, leaf)
		}
	}
	return leaves
}

func wantLeaves(l []api.Account) []int {
	var leaves []int
	for at := range l {
		if wantLeaf(l, at+1) {
			leaves = append(leaves, at+1)
		}
	}
	return leaves
}

// wantWalk tells those whose Parent is above, and behind each of them all that comes behind it likewise.
func wantWalk(l []api.Account, above, depth int) []Node {
	var nodes []Node
	for at, x := range l {
		if x.Parent == above {
			nodes = append(nodes, Node{at + 1, depth})
			nodes = append(nodes, wantWalk(l, at+1, depth+1)...)
		}
	}
	return nodes
}

func isAmong(n int, l ...int) bool { return slices.Contains(l, n) }

// wantWrong tells what is wrong with an account by itself, among as many as these are.
func wantWrong(l []api.Account, x api.Account) api.Errno {
	if x.Parent != 0 && !isThere(l, x.Parent) {
		return api.ErrAccount
	}
	if isAmong(x.Parent, 1, 2, 3) {
		return api.ErrOwn
	}
	if !isAmong(x.Kind, 1, 2, 3) || x.Split && x.Partner {
		return api.ErrKind
	}
	return api.OK
}

// wantCircle tells whether an account is at itself again by so many steps, or fewer, as there are accounts.
func wantCircle(l []api.Account, a int) bool {
	next := a
	for range l {
		if !isThere(l, next) {
			return false
		}
		next = l[next-1].Parent
		if next == a {
			return true
		}
	}
	return false
}

func wantCheck(l []api.Account) (int, api.Errno) {
	if len(l) > 60 {
		return 0, api.ErrFull
	}
	for at, x := range own() {
		if at >= len(l) || l[at] != x {
			return 0, api.ErrOwn
		}
	}
	for at, x := range l {
		if e := wantWrong(l, x); e != api.OK {
			return at, e
		}
	}
	for at := range l {
		if wantCircle(l, at+1) {
			return at, api.ErrCircle
		}
	}
	return len(l), api.OK
}

func wantAdd(l []api.Account, x api.Account) ([]api.Account, api.Errno) {
	if len(l) >= 60 {
		return nil, api.ErrFull
	}
	if e := wantWrong(l, x); e != api.OK {
		return nil, e
	}
	return append(slices.Clone(l), x), api.OK
}

func wantMove(l []api.Account, a, parent int) ([]api.Account, api.Errno) {
	if !isThere(l, a) || parent != 0 && !isThere(l, parent) {
		return nil, api.ErrAccount
	}
	if isAmong(a, 1, 2, 3) || isAmong(parent, 1, 2, 3) {
		return nil, api.ErrOwn
	}
	if parent == a || slices.Contains(wantUp(l, parent), a) {
		return nil, api.ErrCircle
	}
	return under(l, a, parent), api.OK
}

// Calls, of which what is told is held against what has to be, and what was handed in against what it was.

func checks(t *testing.T, l []api.Account) {
	t.Helper()
	in := lend(l)
	at, e := Check(in.row())
	if wantAt, want := wantCheck(l); at != wantAt || e != want {
		t.Fatalf("Check(%v): %d, %v; not %d, %v", show(l), at, e, wantAt, want)
	}
	in.look(t, "Check")
}

// told is what a call that is told of one row has told, and what it had to.
type told[T any] struct {
	call     string
	is, want []T
	odd      T
}

// look holds an answer against what it had to be, writes over it, and looks at whether the row that came in is as it was.
func look[T comparable](t *testing.T, in lent, x told[T]) {
	t.Helper()
	if !slices.Equal(x.is, x.want) {
		t.Fatalf("%s of %v: %v, not %v", x.call, show(in.row()), x.is, x.want)
	}
	in.look(t, x.call)
	spoil(x.is, x.odd)
	in.look(t, x.call+", its answer written over")
}

// tells makes all calls that are told of a row and a number.
func tells(t *testing.T, l []api.Account, a int) {
	t.Helper()
	in := lend(l)
	look(t, in, told[int]{"Children", Children(in.row(), a), wantChildren(l, a), -99})
	look(t, in, told[int]{"Up", Up(in.row(), a), wantUp(l, a), -99})
	look(t, in, told[int]{"Under", Under(in.row(), a), wantUnder(l, a), -99})
	if is, want := Leaf(in.row(), a), wantLeaf(l, a); is != want {
		t.Fatalf("Leaf(%v, %d): %v", show(l), a, is)
	}
	in.look(t, "Leaf")
}

// tellsAll makes all calls that are told of a row, with all its accounts, and with some numbers beside.
func tellsAll(t *testing.T, l []api.Account) {
	t.Helper()
	in := lend(l)
	look(t, in, told[int]{"Leaves", Leaves(in.row()), wantLeaves(l), -99})
	look(t, in, told[Node]{"Walk", Walk(in.row()), wantWalk(l, 0, 0), Node{-99, -99}})
	for a := -1; a <= len(l)+2; a++ {
		tells(t, l, a)
	}
}

func adds(t *testing.T, l []api.Account, x api.Account) {
	t.Helper()
	in := lend(l)
	out, e := Add(in.row(), x)
	want, wantE := wantAdd(l, x)
	if e != wantE {
		t.Fatalf("Add(%v, %v): %v, %v; not %v", show(l), x, out, e, wantE)
	}
	look(t, in, told[api.Account]{"Add", out, want, ac(-99, 99)})
}

func moves(t *testing.T, l []api.Account, a, parent int) {
	t.Helper()
	in := lend(l)
	out, e := Move(in.row(), a, parent)
	want, wantE := wantMove(l, a, parent)
	if e != wantE {
		t.Fatalf("Move(%v, %d, %d): %v, %v; not %v", show(l), a, parent, out, e, wantE)
	}
	look(t, in, told[api.Account]{"Move", out, want, ac(-99, 99)})
}

package intern

import (
	"fmt"
	"math"
	"math/rand"
	"slices"
	"strings"
	"testing"

	"gavelkind/api"
)

const most, least = math.MaxInt, math.MinInt

// pair is a key with fields of several kinds, one of them a struct of its own.
type pair struct {
	name string
	cell api.Cell
	part [2]int8
}

func numberKey(n int) int    { return n }
func textKey(n int) string   { return strings.Repeat("x", n/2) + "y"[n%2:] }
func cellKey(n int) api.Cell { return api.Cell{Rule: n % 3, Entity: n / 3 % 3, Partner: n / 9} }
func pairKey(n int) pair {
	return pair{name: textKey(n % 2), cell: cellKey(n / 2 % 4), part: [2]int8{int8(n / 8), 1}}
}
func arrayKey(n int) [3]int { return [3]int{n % 2, n / 2 % 2, n / 4} }
func anyKey(n int) any { // keys of other types are others, even if they look alike
	return []any{n / 4, int8(n / 4), fmt.Sprint(n / 4), cellKey(n / 4)}[n%4]
}

func table[K comparable](t *testing.T, room int, keys ...K) *Table[K] {
	t.Helper()
	x, e := New[K](room)
	if e != api.OK || x == nil {
		t.Fatalf("New(%d): %v, %v", room, x, e)
	}
	for i, k := range keys {
		if n, e := x.Id(k); n != i || e != api.OK {
			t.Fatalf("Id(%v), as key %d: %d, %v", k, i, n, e)
		}
	}
	return x
}

// holds asks for all that can be told of a table that has just these keys, and for some that it has not (P8.4).
func holds[K comparable](t *testing.T, x *Table[K], keys []K, others ...K) {
	t.Helper()
	if x.Len() != len(keys) {
		t.Fatalf("Len: %d, not %d", x.Len(), len(keys))
	}
	for i, k := range keys {
		if n, e := x.Id(k); n != i || e != api.OK {
			t.Fatalf("Id(%v): %d, %v, not %d", k, n, e, i)
		}
		if n, ok := x.Find(k); n != i || !ok {
			t.Fatalf("Find(%v): %d, %v, not %d", k, n, ok, i)
		}
		if it, ok := x.Key(i); it != k || !ok {
			t.Fatalf("Key(%d): %v, %v, not %v", i, it, ok, k)
		}
	}
	for _, k := range others {
		if n, ok := x.Find(k); n != 0 || ok {
			t.Fatalf("Find(%v), which is not there: %d, %v", k, n, ok)
		}
	}
	var none K
	for _, i := range []int{least, least + 1, -len(keys) - 1, -len(keys), -2, -1, len(keys), len(keys) + 1, len(keys) + 2, api.MaxCells, 1 << 32, 1<<32 + 1, most - 1, most} {
		if i >= 0 && i < len(keys) {
			continue
		}
		if it, ok := x.Key(i); it != none || ok {
			t.Fatalf("Key(%d), of a table of %d: %v, %v", i, len(keys), it, ok)
		}
	}
	if x.Len() != len(keys) {
		t.Fatalf("Len: %d, as it was asked; not %d", x.Len(), len(keys))
	}
}

// P8.1: how many keys there may be, and an empty table of each kind of key.
func TestNew(t *testing.T) {
	for _, room := range []int{least, least + 1, -20000, -2, -1, 0, 20001, 20002, 40000, 1 << 31, 1 << 32, 1<<32 + 1, 1<<32 + 20000, most - 1, most} {
		if x, e := New[int](room); x != nil || e != api.ErrArg {
			t.Errorf("New(%d): %v, %v", room, x, e)
		}
		if x, e := New[api.Cell](room); x != nil || e != api.ErrArg {
			t.Errorf("New(%d), of cells: %v, %v", room, x, e)
		}
	}
	for _, room := range []int{1, 2, 3, 100, 19999, 20000, api.MaxCells} {
		holds(t, table[int](t, room), nil, 0, 1, -1, room, least, most)
		holds(t, table[string](t, room), nil, "", "a", "\x00")
		holds(t, table[api.Cell](t, room), nil, api.Cell{}, cellKey(1))
		holds[any](t, table[any](t, room), nil, nil, 0, "")
	}
}

// P8.1: one table has nothing to do with another one.
func TestTablesApart(t *testing.T) {
	x, y := table(t, 2, 7, 8), table[int](t, 2)
	holds(t, y, nil, 7, 8)
	holds(t, table(t, 2, 8, 7), []int{8, 7})
	x.Cut(0)
	holds(t, table(t, 1, 8), []int{8}, 7)
	holds(t, y, nil, 7, 8)
	holds(t, x, nil, 7, 8)
}

// P8.2: the example of the chapter, and others, written out.
func TestId(t *testing.T) {
	x := table[int](t, 10)
	for i, c := range []struct{ k, n int }{{7, 0}, {9, 1}, {7, 0}, {9, 1}, {0, 2}, {-7, 3}, {most, 4}, {least, 5}, {0, 2}, {7, 0}, {1 << 32, 6}, {1<<32 + 7, 7}, {1, 8}, {least, 5}, {2, 9}, {most, 4}, {2, 9}} {
		if n, e := x.Id(c.k); n != c.n || e != api.OK {
			t.Errorf("%d: Id(%d): %d, %v", i, c.k, n, e)
		}
	}
	holds(t, x, []int{7, 9, 0, -7, most, least, 1 << 32, 1<<32 + 7, 1, 2}, 3, -1, 70)
	texts := []string{"a", "", "A", "a ", " a", "\x00", "\x00\x00", "ab", "\xff", "\u00e4", "a\u0308", strings.Repeat("a", 1000000), strings.Repeat("a", 999999) + "b"}
	holds(t, table(t, 20, texts...), texts, "b", "a\x00", "ba", "\xfe", strings.Repeat("a", 999999))
	cells := []api.Cell{{Rule: 1}, {Entity: 1}, {Account: 1}, {Period: 1}, {Currency: 1}, {Partner: 1}, {}, {Rule: 1, Partner: 1}, {Rule: -1}, {Partner: -1}, {Rule: 2}, {Partner: 1 << 32}, {Rule: 1, Entity: 1, Account: 1, Period: 1, Currency: 1, Partner: 1}}
	holds(t, table(t, 20, cells...), cells, api.Cell{Partner: 2}, api.Cell{Rule: 1, Entity: 1}, api.Cell{Currency: -1})
	pairs := []pair{{}, {name: "a"}, {cell: api.Cell{Partner: 1}}, {part: [2]int8{1, 0}}, {part: [2]int8{0, 1}}, {name: "a", cell: api.Cell{Partner: 1}}}
	holds(t, table(t, 6, pairs...), pairs, pair{name: "b"}, pair{name: "a", part: [2]int8{0, 1}})
}

// P8.2: a full table still tells the numbers of the keys that are there, and nothing changes by a new one.
func TestFull(t *testing.T) {
	isFull := func(x *Table[string], keys []string, others ...string) {
		t.Helper()
		for range 2 {
			for _, k := range others {
				if n, e := x.Id(k); n != 0 || e != api.ErrFull {
					t.Errorf("Id(%q), of a full table: %d, %v", k, n, e)
				}
			}
			holds(t, x, keys, others...)
		}
	}
	isFull(table(t, 1, "a"), []string{"a"}, "b", "", "aa")
	isFull(table(t, 1, ""), []string{""}, "b", "a")
	isFull(table(t, 2, "a", "b"), []string{"a", "b"}, "", "c")
	isFull(table(t, 3, "c", "", "a"), []string{"c", "", "a"}, "b", "ca")
	x := table(t, 2, "a")
	holds(t, x, []string{"a"}, "b", "c") // one key short of full
	holds(t, table(t, 2, "a", "c"), []string{"a", "c"}, "b")
	if n, e := x.Id("b"); n != 1 || e != api.OK {
		t.Error("the last place: ", n, e)
	}
	isFull(x, []string{"a", "b"}, "c", "d")
}

// P8.1, P8.2: as many keys as there may be, of 20000, and one more.
func TestMostKeys(t *testing.T) {
	var cells []api.Cell
	for n := range 20000 {
		cells = append(cells, api.Cell{Rule: n%7 + 1, Entity: n / 7 % 41, Account: n / 287, Partner: -n})
	}
	x := table(t, 20000, cells...)
	beyond := api.Cell{Rule: 1, Partner: 20000}
	if n, e := x.Id(beyond); n != 0 || e != api.ErrFull {
		t.Errorf("key 20001: %d, %v", n, e)
	}
	holds(t, x, cells, beyond, api.Cell{})
	x.Cut(19999)
	holds(t, x, cells[:19999], beyond, cells[19999])
	if n, e := x.Id(beyond); n != 19999 || e != api.OK {
		t.Errorf("key 20000 behind a cut: %d, %v", n, e)
	}
	if n, e := x.Id(cells[19999]); n != 0 || e != api.ErrFull {
		t.Errorf("key 20001 behind a cut: %d, %v", n, e)
	}
	x.Cut(0)
	holds(t, x, nil, beyond, cells[0], cells[19999])
	holds(t, table(t, 19999, cells[:19999]...), cells[:19999], cells[19999])
}

// P8.2: the zero key is one as any other: an answer of 0 alone does not tell that it is there.
func TestZeroKey(t *testing.T) {
	x := table(t, 3, 5)
	holds(t, x, []int{5}, 0)
	if n, e := x.Id(0); n != 1 || e != api.OK {
		t.Error("Id(0):", n, e)
	}
	holds(t, x, []int{5, 0}, 1)
	x.Cut(1)
	holds(t, x, []int{5}, 0)
	holds(t, table(t, 1, 0), []int{0}, 5)
	holds(t, table(t, 2, "", "a"), []string{"", "a"}, "b")
	holds(t, table(t, 2, "a"), []string{"a"}, "")
	holds(t, table(t, 2, api.Cell{}, cellKey(1)), []api.Cell{{}, cellKey(1)}, cellKey(2))
	holds(t, table(t, 2, cellKey(1)), []api.Cell{cellKey(1)}, api.Cell{})
	holds[any](t, table[any](t, 3, nil, 0, ""), []any{nil, 0, ""}, false, int8(0))
	holds(t, table[*int](t, 1, nil), []*int{nil}, new(int))
}

// P8.3: the keys from a number on are there no more, the ones ahead of it are.
func TestCut(t *testing.T) {
	keys := []string{"a", "b", "", "d", "e"}
	for _, c := range []struct{ n, left int }{{least, 0}, {least + 1, 0}, {-5, 0}, {-2, 0}, {-1, 0}, {0, 0}, {1, 1}, {2, 2}, {3, 3}, {4, 4}, {5, 5}, {6, 5}, {10, 5}, {1 << 32, 5}, {1<<32 + 1, 5}, {most - 1, 5}, {most, 5}} {
		for _, room := range []int{5, 6, 20000} { // one of them is full
			x := table(t, room, keys...)
			x.Cut(c.n)
			holds(t, x, keys[:c.left], keys[c.left:]...)
			x.Cut(c.n)
			holds(t, x, keys[:c.left], keys[c.left:]...)
			again := slices.Clone(keys)
			slices.Reverse(again[c.left:])
			for i := c.left; i < len(again); i++ {
				if n, e := x.Id(again[i]); n != i || e != api.OK {
					t.Fatalf("Id(%q) behind Cut(%d): %d, %v, not %d", again[i], c.n, n, e, i)
				}
			}
			holds(t, x, again, "f")
		}
	}
}

// P8.3: one cut behind the other, and cuts of what is empty.
func TestCuts(t *testing.T) {
	x := table(t, 6, 1, 2, 3, 4, 5, 6)
	for left := 5; left >= 0; left-- {
		x.Cut(left)
		x.Cut(left + 1)
		holds(t, x, []int{1, 2, 3, 4, 5, 6}[:left], []int{1, 2, 3, 4, 5, 6}[left:]...)
	}
	for _, n := range []int{least, -1, 0, 1, most} {
		x.Cut(n)
		holds(t, x, nil, 0, 1, 6)
		y := table[int](t, 1)
		y.Cut(n)
		holds(t, y, nil, 0, 1)
		if i, e := y.Id(3); i != 0 || e != api.OK {
			t.Errorf("Id behind Cut(%d) of an empty table: %d, %v", n, i, e)
		}
		holds(t, y, []int{3}, 0, 1)
	}
	holds(t, table(t, 1, 9), []int{9}, 1)
}

// P8.3, P8.5: a table that was full and was cut takes as many keys again, and not one more.
func TestCutOfFull(t *testing.T) {
	x := table(t, 3, 1, 2, 3)
	for _, c := range []struct {
		cut  int
		keys []int
	}{{2, []int{1, 2, 4}}, {1, []int{1, 3, 2}}, {0, []int{2, 1, 3}}, {-7, []int{0, 5, 6}}, {3, []int{0, 5, 6}}, {most, []int{0, 5, 6}}, {2, []int{0, 5, 1}}} {
		x.Cut(c.cut)
		for i, k := range c.keys {
			if n, e := x.Id(k); n != i || e != api.OK {
				t.Errorf("behind Cut(%d): Id(%d): %d, %v", c.cut, k, n, e)
			}
		}
		for range 2 {
			if n, e := x.Id(9); n != 0 || e != api.ErrFull {
				t.Errorf("behind Cut(%d): Id(9): %d, %v", c.cut, n, e)
			}
			holds(t, x, c.keys, 9)
		}
	}
	one := table(t, 1, 8)
	one.Cut(0)
	if n, e := one.Id(9); n != 0 || e != api.OK {
		t.Error("room for one key:", n, e)
	}
	holds(t, one, []int{9}, 8)
}

// noTable asks a table that New did not make for all, twice, as nothing is to be kept in it.
func noTable[K comparable](t *testing.T, name string, x *Table[K], keys ...K) {
	t.Helper()
	var none K
	for range 2 {
		for _, k := range append(keys, none) {
			if n, e := x.Id(k); n != 0 || e != api.ErrNil {
				t.Errorf("%s: Id(%v): %d, %v", name, k, n, e)
			}
			if n, ok := x.Find(k); n != 0 || ok {
				t.Errorf("%s: Find(%v): %d, %v", name, k, n, ok)
			}
		}
		for _, n := range []int{least, -1, 0, 1, most} {
			if k, ok := x.Key(n); k != none || ok {
				t.Errorf("%s: Key(%d): %v, %v", name, n, k, ok)
			}
			x.Cut(n)
			if x.Len() != 0 {
				t.Errorf("%s: Len: %d", name, x.Len())
			}
		}
	}
}

// P8.1 to P8.3: a nil table, and a plain one.
func TestNoTable(t *testing.T) {
	noTable(t, "nil", nil, 1, -1, most)
	noTable(t, "plain", &Table[int]{}, 1, -1, most)
	noTable(t, "nil", nil, "", "a")
	noTable(t, "plain", &Table[string]{}, "", "a")
	noTable(t, "nil", nil, api.Cell{}, cellKey(1))
	noTable(t, "plain", &Table[api.Cell]{}, api.Cell{}, cellKey(1))
	noTable[any](t, "nil", nil, 1, []int{1}, math.NaN())
	noTable[any](t, "plain", &Table[any]{}, 1, []int{1}, math.NaN())
	refused, _ := New[int](0)
	noTable(t, "refused", refused, 1)
	var plain Table[int]
	noTable(t, "plain, not of new", &plain, 1)
}

// list tells by a list alone what a table has to answer.
type list[K comparable] struct {
	most int
	keys []K
}

func (l *list[K]) id(k K) (int, api.Errno) {
	if i := slices.Index(l.keys, k); i >= 0 {
		return i, api.OK
	}
	if len(l.keys) == l.most {
		return 0, api.ErrFull
	}
	l.keys = append(l.keys, k)
	return len(l.keys) - 1, api.OK
}

func (l *list[K]) cut(n int) []K {
	n = min(max(n, 0), len(l.keys))
	cut := l.keys[n:]
	l.keys = l.keys[:n:n]
	return cut
}

// againstList does the same to a table and to a list.
func againstList[K comparable](t *testing.T, r *rand.Rand, key func(int) K) {
	t.Helper()
	const kinds = 24
	room := 1 + r.Intn(kinds+3)
	x, l := table[K](t, room), &list[K]{most: room}
	seen := map[api.Errno]int{}
	for range 60 {
		var cut []K
		if r.Intn(6) == 0 {
			n := r.Intn(room+4) - 2
			x.Cut(n)
			cut = l.cut(n)
		} else {
			k := key(r.Intn(kinds))
			n, e := x.Id(k)
			if m, f := l.id(k); n != m || e != f {
				t.Fatalf("Id(%v), with %v: %d, %v, not %d, %v", k, l.keys, n, e, m, f)
			}
			seen[e]++
		}
		holds(t, x, l.keys, cut...)
		for n := range kinds {
			if k := key(n); !slices.Contains(l.keys, k) {
				holds(t, x, l.keys, k)
			}
		}
	}
	if seen[api.OK] == 0 {
		t.Error("the draw leaves out keys that are taken", seen)
	}
}

// P8.2 to P8.5: keys of several kinds, put and cut as it is drawn. (The draw is the same each time.)
func TestAgainstList(t *testing.T) {
	r := rand.New(rand.NewSource(8))
	for range 60 {
		againstList(t, r, numberKey)
		againstList(t, r, textKey)
		againstList(t, r, cellKey)
		againstList(t, r, pairKey)
		againstList(t, r, arrayKey)
		againstList(t, r, anyKey)
	}
}

// P8.4: two keys have one number just if they are the same.
func TestSameKeys(t *testing.T) {
	cells := table[api.Cell](t, 1000)
	all := []api.Cell{}
	for n := range 729 { // each field is 0, 1 or -1
		at := func(place int) int { return n/place%3 - 1 }
		all = append(all, api.Cell{Rule: at(1), Entity: at(3), Account: at(9), Period: at(27), Currency: at(81), Partner: at(243)})
	}
	for round := range 2 {
		for i, k := range all {
			if n, e := cells.Id(k); n != i || e != api.OK {
				t.Fatalf("round %d: Id(%v): %d, %v, not %d", round, k, n, e, i)
			}
		}
	}
	holds(t, cells, all, api.Cell{Rule: 2})
	bytes := []byte("abc")
	x := table(t, 3, string(bytes), "b")
	copy(bytes, "bcd") // what the key was made of is another thing
	holds(t, x, []string{"abc", "b"}, "bcd")
	one, other := new(int), new(int)
	holds(t, table(t, 2, one, other), []*int{one, other}, new(int), nil)
	nought := table(t, 2, 0.0)
	if n, e := nought.Id(math.Copysign(0, -1)); n != 0 || e != api.OK { // -0 == 0
		t.Error("-0:", n, e)
	}
}

// P8.5: behind a cut a table answers as one that never had the keys which went, whatever comes then. (The draw is the same each time.)
func TestAsIfNeverCome(t *testing.T) {
	r := rand.New(rand.NewSource(9))
	for range 2000 {
		room := 1 + r.Intn(12)
		x, y := table[string](t, room), table[string](t, room)
		left := r.Intn(room + 1)
		for n := range left {
			x.Id(textKey(n))
			y.Id(textKey(n))
		}
		for range r.Intn(2 * room) {
			x.Id(textKey(left + r.Intn(room)))
		}
		x.Cut(left)
		if r.Intn(2) == 0 {
			x.Cut(left + r.Intn(3))
		}
		for range 20 {
			k, i := textKey(r.Intn(2*room)), r.Intn(room+2)-1
			n, found := x.Find(k)
			if m, f := y.Find(k); n != m || found != f {
				t.Fatalf("Find(%q): %d, %v, not %d, %v", k, n, found, m, f)
			}
			n, e := x.Id(k)
			if m, f := y.Id(k); n != m || e != f {
				t.Fatalf("Id(%q): %d, %v, not %d, %v", k, n, e, m, f)
			}
			it, ok := x.Key(i)
			if that, f := y.Key(i); it != that || ok != f {
				t.Fatalf("Key(%d): %q, %v, not %q, %v", i, it, ok, that, f)
			}
			if x.Len() != y.Len() {
				t.Fatalf("Len: %d, not %d", x.Len(), y.Len())
			}
		}
	}
}

// P8.2, P8.3, and no call panics (rule 1): keys that are the same as none, not even as themselves. They are there never, so each gets the next number.
func TestKeysThatAreNeverFound(t *testing.T) {
	odd := []any{math.NaN(), []int{1}, map[int]int{}, func() {}, [1]any{[]int{}}, struct {
		a float64
		b any
	}{math.NaN(), []int{}}, struct{ a any }{[]string{"a"}}, [2]any{1, math.NaN()}}
	x := table[any](t, 2*len(odd)+2, 7)
	for round := range 2 {
		for i, k := range odd {
			if n, e := x.Id(k); n != 1+round*len(odd)+i || e != api.OK {
				t.Errorf("Id(%T): %d, %v", k, n, e)
			}
			if n, ok := x.Find(k); n != 0 || ok {
				t.Errorf("Find(%T): %d, %v", k, n, ok)
			}
			if it, ok := x.Key(1 + i); fmt.Sprintf("%T", it) != fmt.Sprintf("%T", k) || !ok {
				t.Errorf("Key(%d): %T, %v, not %T", 1+i, it, ok, k)
			}
		}
	}
	if n, e := x.Id("last"); n != 2*len(odd)+1 || e != api.OK {
		t.Error("last:", n, e)
	}
	for _, k := range append(odd, "other") {
		if n, e := x.Id(k); n != 0 || e != api.ErrFull {
			t.Errorf("Id(%T), of a full table: %d, %v", k, n, e)
		}
	}
	x.Cut(2)
	if n, ok := x.Find("last"); n != 0 || ok || x.Len() != 2 {
		t.Error("cut:", n, ok, x.Len())
	}
	x.Cut(1)
	holds(t, x, []any{7}, odd...)
	if len(x.numbers) != 1 {
		t.Error("the map keeps", len(x.numbers))
	}
	floats := table(t, 3, math.NaN(), math.NaN(), 1)
	floats.Cut(0)
	holds(t, floats, nil, math.NaN(), 1)
	if len(floats.numbers) != 0 {
		t.Error("the map keeps", len(floats.numbers))
	}
}

// P8.5, and no more is kept than that: what is cut off stands neither in the map nor in the list's spare room.
func TestNothingKept(t *testing.T) {
	var keys []*int
	for range 40 {
		keys = append(keys, new(int))
	}
	for _, left := range []int{39, 20, 1, 0} {
		x := table(t, 40, keys...)
		x.Cut(left)
		if len(x.numbers) != left {
			t.Errorf("Cut(%d): the map keeps %d", left, len(x.numbers))
		}
		for i, k := range x.keys[:cap(x.keys)] {
			if i >= left && k != nil {
				t.Errorf("Cut(%d): place %d keeps a key", left, i)
			}
		}
		holds(t, x, keys[:left], keys[left:]...)
	}
}

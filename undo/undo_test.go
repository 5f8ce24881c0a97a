package undo

import (
	"maps"
	"math"
	"math/rand"
	"reflect"
	"runtime"
	"slices"
	"strconv"
	"strings"
	"testing"
	"weak"

	"gavelkind/api"
)

const most, least = math.MaxInt, math.MinInt

// pair is a key with fields of several kinds, one of them a struct and one an array.
type pair struct {
	name string
	cell api.Cell
	part [2]int8
}

func numberKey(n int) int    { return n - 3 }
func textKey(n int) string   { return strings.Repeat("x", n/2) + "y"[n%2:] }
func cellKey(n int) api.Cell { return api.Cell{Rule: n % 3, Entity: n / 3 % 3, Partner: n / 9} }
func arrayKey(n int) [3]int  { return [3]int{n % 2, n / 2 % 2, n / 4} }
func floatKey(n int) float64 { return float64(n) / 2 }
func boolKey(n int) bool     { return n%2 == 1 }
func pairKey(n int) pair {
	return pair{name: textKey(n % 2), cell: cellKey(n / 2 % 4), part: [2]int8{int8(n / 8), 1}}
}
func anyKey(n int) any { // keys of other types are others, even if they look alike
	return []any{n / 4, int8(n / 4), strconv.Itoa(n / 4), cellKey(n / 4)}[n%4]
}

// same holds values against each other: a list that is nil is another one than an empty one.
func same(a, b any) bool { return reflect.DeepEqual(a, b) }

// model tells by the chapter's words what a book has to answer.
type model[K comparable, V any] struct {
	has    map[K]V
	begins []map[K]V // at each beginning that is open, a whole copy
}

func (m *model[K, V]) drop(k K) api.Errno {
	if _, has := m.has[k]; !has {
		return api.ErrTwice
	}
	delete(m.has, k)
	return api.OK
}

func (m *model[K, V]) begin() api.Errno {
	if len(m.begins) == 64 {
		return api.ErrFull
	}
	m.begins = append(m.begins, maps.Clone(m.has))
	return api.OK
}

func (m *model[K, V]) end(back bool) api.Errno {
	last := len(m.begins) - 1
	if last < 0 {
		return api.ErrArg
	}
	if back {
		m.has = m.begins[last]
	}
	m.begins = m.begins[:last]
	return api.OK
}

// both is a book and what it has to answer, and the keys that are asked for.
type both[K comparable, V any] struct {
	b    *Book[K, V]
	m    *model[K, V]
	keys []K
}

// made makes a book, in which some keys are asked for.
func made[K comparable, V any](t *testing.T, keys ...K) *both[K, V] {
	t.Helper()
	x := &both[K, V]{New[K, V](), &model[K, V]{has: map[K]V{}}, keys}
	x.holds(t)
	return x
}

// counts asks for Len and Depth.
func (x *both[K, V]) counts(t *testing.T) {
	t.Helper()
	if x.b.Len() != len(x.m.has) || x.b.Depth() != len(x.m.begins) {
		t.Fatalf("Len %d, not %d; Depth %d, not %d", x.b.Len(), len(x.m.has), x.b.Depth(), len(x.m.begins))
	}
}

// holds asks for all that can be told, twice, as nothing is to be changed by that.
func (x *both[K, V]) holds(t *testing.T) {
	t.Helper()
	for range 2 {
		for _, k := range x.keys {
			v, ok := x.b.Get(k)
			if want, has := x.m.has[k]; !same(v, want) || ok != has {
				t.Fatalf("Get(%v): %v, %v, not %v, %v", k, v, ok, want, has)
			}
		}
		x.counts(t)
	}
}

func (x *both[K, V]) set(t *testing.T, k K, v V) {
	t.Helper()
	x.m.has[k] = v
	if e := x.b.Set(k, v); e != api.OK {
		t.Fatalf("Set(%v, %v): %v", k, v, e)
	}
	x.counts(t)
}

func (x *both[K, V]) drop(t *testing.T, k K) {
	t.Helper()
	want := x.m.drop(k)
	if e := x.b.Drop(k); e != want {
		t.Fatalf("Drop(%v): %v, not %v", k, e, want)
	}
	x.counts(t)
}

func (x *both[K, V]) begin(t *testing.T) {
	t.Helper()
	want := x.m.begin()
	if e := x.b.Begin(); e != want {
		t.Fatalf("Begin, the %d. one: %v, not %v", len(x.m.begins), e, want)
	}
	x.counts(t)
}

func (x *both[K, V]) keep(t *testing.T) {
	t.Helper()
	depth := len(x.m.begins)
	want := x.m.end(false)
	if e := x.b.Keep(); e != want {
		t.Fatalf("Keep, of %d: %v, not %v", depth, e, want)
	}
	x.counts(t)
}

func (x *both[K, V]) back(t *testing.T) {
	t.Helper()
	depth := len(x.m.begins)
	want := x.m.end(true)
	if e := x.b.Back(); e != want {
		t.Fatalf("Back, of %d: %v, not %v", depth, e, want)
	}
	x.counts(t)
}

// allBack takes back all that is open, and looks at each beginning.
func (x *both[K, V]) allBack(t *testing.T) {
	t.Helper()
	for len(x.m.begins) > 0 {
		x.back(t)
		x.holds(t)
	}
	x.back(t)
	x.holds(t)
}

// do does what a text tells, a letter a call: S and D with the number of a key behind it, S with that of a value behind it; B, K and U are Begin, Keep and Back.
func (x *both[K, V]) do(t *testing.T, calls string, value func(int) V) {
	t.Helper()
	for call := range strings.FieldsSeq(calls) {
		at := func(i int) int { return int(call[i] - '0') }
		switch call[0] {
		case 'S':
			x.set(t, x.keys[at(1)], value(at(2)))
		case 'D':
			x.drop(t, x.keys[at(1)])
		case 'B':
			x.begin(t)
		case 'K':
			x.keep(t)
		case 'U':
			x.back(t)
		default:
			t.Fatalf("no such call: %s", call)
		}
		x.holds(t)
	}
}

func self(n int) int { return n }

// rows do the same calls with books of several kinds of keys and values; value 0 is each kind's empty one.
func rows(t *testing.T, calls string) {
	t.Helper()
	made[int, int](t, 0, 7, -1, most, least).do(t, calls, self)
	made[string, string](t, "", "a", "a\x00", "A", "b").do(t, calls, textKey)
	made[api.Cell, api.Value](t, api.Cell{}, api.Cell{Rule: 1}, api.Cell{Partner: 1}, cellKey(5), cellKey(8)).do(t, calls, func(n int) api.Value { return api.Value{Amount: n} })
	made[pair, pair](t, pairKey(0), pairKey(1), pairKey(2), pairKey(8), pairKey(15)).do(t, calls, func(n int) pair { return pair{part: [2]int8{int8(n)}} })
	made[[3]int, [3]int](t, arrayKey(0), arrayKey(1), arrayKey(2), arrayKey(3), arrayKey(4)).do(t, calls, func(n int) [3]int { return [3]int{0, n} })
	made[any, any](t, nil, 0, "", int8(0), cellKey(0)).do(t, calls, func(n int) any { return []any{nil, 1, "2", '3'}[n%4] })
	made[float64, bool](t, 0, 0.5, math.Inf(1), math.Inf(-1), math.SmallestNonzeroFloat64).do(t, calls, func(n int) bool { return n > 0 })
	made[int8, []int](t, 0, 1, -1, 127, -128).do(t, calls, func(n int) []int { return [][]int{nil, {}, {1}, {1, 2}}[n%4] })
	made[int, struct{}](t, 0, 1, 2, 3, 4).do(t, calls, func(int) struct{} { return struct{}{} })
	one, two := &pair{name: "one"}, &pair{name: "two"}
	made[*pair, *pair](t, nil, one, two, &pair{}, &pair{}).do(t, calls, func(n int) *pair { return []*pair{nil, one, two, one}[n%4] })
}

// P16.1: a book that New makes is an empty one, of each kind of keys and values, and each has its own.
func TestNew(t *testing.T) {
	made[int, int](t, 0, 1, -1, most, least)
	made[string, string](t, "", "a", "\x00")
	made[api.Cell, api.Value](t, api.Cell{}, cellKey(1))
	made[pair, []pair](t, pair{}, pairKey(1))
	made[[3]int, *int](t, [3]int{}, arrayKey(1))
	made[any, any](t, nil, 0, "", false, api.Cell{})
	made[*int, func()](t, nil, new(int))
	made[struct{}, bool](t, struct{}{})
	made[float64, error](t, 0, math.Inf(1))
	for range 3 {
		if b := New[int, int](); b == nil || b.Len() != 0 || b.Depth() != 0 {
			t.Errorf("New: %v", b)
		}
	}
}

// P16.1, P16.2: the chapter's example.
func TestExample(t *testing.T) {
	b := New[int, int]()
	for i, e := range []api.Errno{b.Set(1, 5), b.Begin(), b.Set(1, 6), b.Drop(1), b.Back()} {
		if e != api.OK {
			t.Errorf("call %d: %v", i, e)
		}
	}
	if v, ok := b.Get(1); v != 5 || !ok || b.Len() != 1 || b.Depth() != 0 {
		t.Errorf("Get(1): %d, %v; Len %d, Depth %d", v, ok, b.Len(), b.Depth())
	}
}

// noBook asks a book that New did not make for all, twice, as nothing is to be kept in it.
func noBook[K comparable, V any](t *testing.T, name string, b *Book[K, V], v V, keys ...K) {
	t.Helper()
	var none V
	for range 2 {
		for _, k := range keys {
			for i, e := range []api.Errno{b.Set(k, v), b.Drop(k), b.Begin(), b.Set(k, v), b.Keep(), b.Begin(), b.Drop(k), b.Back(), b.Keep(), b.Back()} {
				if e != api.ErrNil {
					t.Errorf("%s: call %d with %v: %v", name, i, k, e)
				}
				if it, ok := b.Get(k); !same(it, none) || ok || b.Len() != 0 || b.Depth() != 0 {
					t.Errorf("%s: behind call %d: Get(%v): %v, %v; Len %d, Depth %d", name, i, k, it, ok, b.Len(), b.Depth())
				}
			}
		}
	}
}

// P16.1 to P16.3: a nil book, and a plain one.
func TestNoBook(t *testing.T) {
	noBook(t, "nil", nil, 1, 0, 1, -1, most)
	noBook(t, "plain", &Book[int, int]{}, 1, 0, 1, -1, most)
	noBook(t, "nil", nil, "a", "", "a")
	noBook(t, "plain", &Book[string, string]{}, "a", "", "a")
	noBook(t, "nil", nil, api.Value{Amount: 1}, api.Cell{}, cellKey(1))
	noBook(t, "plain", &Book[api.Cell, api.Value]{}, api.Value{Amount: 1}, api.Cell{}, cellKey(1))
	noBook(t, "nil", nil, []int{1}, arrayKey(0), arrayKey(1))
	noBook(t, "plain", &Book[[3]int, []int]{}, []int{1}, arrayKey(0), arrayKey(1))
	noBook[any, any](t, "nil", nil, 1, nil, 1, math.NaN(), []int{1})
	noBook[any, any](t, "plain", &Book[any, any]{}, 1, nil, 1, math.NaN(), []int{1})
	noBook(t, "nil", nil, 1, math.NaN(), 0)
	noBook(t, "plain", &Book[float64, int]{}, 1, math.NaN(), 0)
	var plain Book[int, int]
	for range mostOpen + 2 {
		if e := plain.Begin(); e != api.ErrNil {
			t.Errorf("plain, not of new: Begin: %v", e)
		}
	}
	noBook(t, "plain, not of new", &plain, 1, 1)
}

// P16.1, P16.2: keys that get values, other ones, the same ones, and none any more, with no beginning open.
func TestSetAndDrop(t *testing.T) {
	rows(t, "S01 S12 S23 S31 S42")
	rows(t, "S01 S02 S02 S01 S00 S01")
	rows(t, "S11 D1 S12 D1 S11 D1 D1 S10 D1 D1")
	rows(t, "D0 D1 S01 D1 D0 D0 D1")
	rows(t, "S01 S12 S23 D1 S11 D0 D2 S21 S02 D1 D1 S13")
	rows(t, "S00 S10 S20 S30 S40 D4 D3 D2 D1 D0 D0")
	rows(t, "D4 S41 S31 D4 S41 D3 D4 D3")
}

// P16.2: a value that is the empty one was set as any other, also within a beginning, and is brought back.
func TestEmptyValue(t *testing.T) {
	rows(t, "S00 S00 D0 D0 S00 S01 S00 D0")
	rows(t, "S00 B S01 U D0 B S00 U B D0 S00 U")
	rows(t, "S00 B D0 U D0 D0")
	rows(t, "B S00 U D0")
	rows(t, "B S00 B D0 K U D0")
	rows(t, "S00 B S01 B D0 K U D0 D0")
	rows(t, "S01 B S00 U B S00 K D0")
	b := New[int, []int]()
	for i, v := range [][]int{nil, {}} {
		b.Set(i, v)
		if it, ok := b.Get(i); (it == nil) != (v == nil) || !ok || b.Len() != i+1 {
			t.Errorf("Get(%d): %v, %v", i, it, ok)
		}
	}
}

// P16.3: Keep and Back with no beginning open, and behind the last one.
func TestNoneOpen(t *testing.T) {
	rows(t, "K U K U")
	rows(t, "S01 K U S02 U K D0 U S03 K")
	rows(t, "B K K U B U U K B B K U K U")
	rows(t, "B S01 U U S02 U K D0 U")
	rows(t, "B S01 K U K S02 U")
	rows(t, "S01 B S02 K U K D0 B S03 U K U")
}

// P16.3: a beginning alone: what is done since goes with Back, and stays with Keep.
func TestOneBeginning(t *testing.T) {
	for _, end := range []string{"U", "K"} {
		for _, since := range []string{
			"", "S01", "S02", "S03", "S01 S02", "S02 S01", "D0", "D0 D0", "D0 S01", "D0 S02", "S02 D0", "D0 S02 D0", "S02 D0 S03", "D0 S02 D0 S01", "S02 S03 S01",
			"S11", "S12", "D1", "S11 D1", "S11 D1 D1", "S11 D1 S12", "S11 S12 D1 S13 D1", "S13 S12",
			"S01 S11 S21", "D0 S12 D2", "S22 D2 S31 D3 S41", "D2 D0", "S02 S12 S22 S32 S42 D0 D1 D2 D3 D4",
		} {
			rows(t, "S01 S23 B "+since+" "+end+" D0 D1 D2 D3 D4")
			rows(t, "B "+since+" "+end+" U D0 D1 D2")
			rows(t, "S01 D0 S02 S11 D1 B "+since+" "+end+" S11 "+end)
		}
	}
}

// P16.3 to P16.5: a beginning within another one, each of them kept or taken back, and changes ahead of the inner one, within it, and behind it.
func TestTwoBeginnings(t *testing.T) {
	changes := []string{"", "S02", "D0", "S12", "D1", "D0 S03", "S03 D0", "S11 D1", "S02 S13", "D0 S12"}
	for _, ends := range []string{"KU", "UK", "UU", "KK"} {
		for _, ahead := range changes {
			for _, within := range changes {
				for _, behind := range changes {
					x := made[int, int](t, 0, 1, 2)
					x.do(t, "S01 B "+ahead+" B "+within+" "+ends[:1]+" "+behind+" "+ends[1:]+" K U", self)
				}
			}
		}
	}
}

// P16.3 to P16.5: the same with keys and values of other kinds, at the cases that the chapter's words single out.
func TestTwoBeginningsOfKinds(t *testing.T) {
	for _, ends := range []string{"K U", "U K", "U U", "K K"} {
		inner, outer := ends[:1], ends[2:]
		rows(t, "S01 B B S02 "+inner+" "+outer+" D0")
		rows(t, "S01 B S02 B S03 "+inner+" "+outer+" D0")
		rows(t, "S01 B S02 B "+inner+" S03 "+outer+" D0")
		rows(t, "S01 B B "+inner+" S03 "+outer+" D0")
		rows(t, "B S01 B D0 "+inner+" "+outer+" D0")
		rows(t, "S01 B D0 B S02 "+inner+" "+outer+" D0")
		rows(t, "S01 B D0 B S02 D0 "+inner+" S03 "+outer+" D0")
		rows(t, "S01 S12 B D0 S21 B D1 S02 D2 S31 "+inner+" D3 S13 D0 S22 "+outer+" D0 D1 D2 D3")
	}
}

// P16.3: three and more, one within the other, kept and taken back in turn.
func TestDeep(t *testing.T) {
	rows(t, "S01 B S02 B D0 B S03 K K U D0")
	rows(t, "S01 B S02 B D0 B S03 U K U D0")
	rows(t, "S01 B S02 B D0 B S03 K U K D0")
	rows(t, "S01 B S02 B D0 B S03 U U U D0")
	rows(t, "B S01 B D0 B S02 B D0 B S03 K K K K U D0")
	rows(t, "B S01 B D0 B S02 B D0 B S03 U K U K U D0")
	rows(t, "B B B S01 K K K U D0")
	rows(t, "B B B S01 K B S02 B D0 K U K D0 U")
	rows(t, "S01 B B S02 U B D0 U B S12 K D1 B S13 U S03 U D0 D1")
}

// P16.3: up to 64 are open, and one more is refused and changes nothing; each of them comes back, or is kept.
func TestMostOpen(t *testing.T) {
	if mostOpen != 64 {
		t.Error("so many may be open:", mostOpen)
	}
	ends := []struct {
		name string
		back func(i int) bool // of the i-th one that ends
	}{
		{"all back", func(int) bool { return true }},
		{"all kept", func(int) bool { return false }},
		{"in turn", func(i int) bool { return i%2 == 0 }},
		{"by threes", func(i int) bool { return i%3 == 0 }},
		{"the last kept", func(i int) bool { return i < 63 }},
		{"the first kept", func(i int) bool { return i > 0 }},
	}
	for _, end := range ends {
		t.Run(end.name, func(t *testing.T) { fillThrice(t, end.back) })
	}
}

// fillThrice opens as many as may be, and ends them as told, from the innermost one on.
func fillThrice(t *testing.T, isBack func(i int) bool) {
	x := made[int, int](t, 0, 1, 2, 3, 63, 64, 65)
	x.set(t, 0, -1)
	for round := range 3 {
		for i := range 64 {
			x.begin(t)
			x.set(t, 0, i)
			x.set(t, i, i+round)
			x.drop(t, i/2)
		}
		for range 3 {
			x.begin(t) // refused
			x.holds(t)
		}
		x.set(t, 64, round)
		x.begin(t)
		x.keep(t)
		x.begin(t) // there is room for one again
		x.begin(t)
		x.back(t)
		x.begin(t)
		for i := range 64 {
			if isBack(i) {
				x.back(t)
			} else {
				x.keep(t)
			}
			x.holds(t)
		}
		x.keep(t)
		x.back(t)
	}
}

// P16.3: one that is refused leaves no trace: what is done behind it belongs to the 64. one.
func TestRefusedBegin(t *testing.T) {
	x := made[string, int](t, "a", "b")
	x.set(t, "a", 1)
	for range 63 {
		x.begin(t)
	}
	x.set(t, "a", 2)
	x.begin(t)
	x.set(t, "a", 3)
	x.begin(t) // refused
	x.set(t, "b", 4)
	x.drop(t, "a")
	x.back(t)
	x.holds(t)
	if v, ok := x.b.Get("a"); v != 2 || !ok || x.b.Depth() != 63 {
		t.Errorf("a: %d, %v; Depth %d", v, ok, x.b.Depth())
	}
	x.allBack(t)
}

// P16.3: the same key, changed within each of 64.
func TestOneKeyInAll(t *testing.T) {
	for _, kept := range []int{0, 1, 2, 31, 63, 64} { // of the innermost ones
		for _, had := range []bool{false, true} {
			x := made[string, int](t, "a", "b")
			if had {
				x.set(t, "a", 1000)
			}
			for i := range 64 {
				x.begin(t)
				switch i % 4 {
				case 0, 1:
					x.set(t, "a", i)
				case 2:
					x.drop(t, "a")
				}
			}
			for range kept {
				x.keep(t)
				x.holds(t)
			}
			x.allBack(t)
		}
	}
}

// What is done with no beginning open can't be taken back.
func TestNotTakenBack(t *testing.T) {
	x := made[int, int](t, 1, 2, 3)
	x.do(t, "S01 S12 D0 S23 U U K", self)
	x.do(t, "B K S03 U B U D1 U", self)
	x.do(t, "B S01 K S02 U K U", self)
	if v, ok := x.b.Get(1); v != 2 || !ok || x.b.Len() != 2 {
		t.Errorf("Get(1): %d, %v; Len %d", v, ok, x.b.Len())
	}
}

// Two books, of the same kind, do not touch one another, whatever is open in either of them.
func TestBooksApart(t *testing.T) {
	x, y := made[string, int](t, "a", "b", "c"), made[string, int](t, "a", "b", "c")
	look := func() {
		t.Helper()
		x.holds(t)
		y.holds(t)
	}
	for _, calls := range [][2]string{{"S01", ""}, {"", "S12"}, {"B S02", "S03"}, {"", "D1"}, {"U", "U"}, {"B", "B D0"}, {"D0", "B S21"}, {"K", ""}, {"", "K U"}, {"U", "K"}, {"B B B", "B"}, {"S11", "U"}, {"U U U", "K"}} {
		x.do(t, calls[0], self)
		look()
		y.do(t, calls[1], self)
		look()
	}
}

// P16.4: thousands of keys within one beginning, set, set anew, dropped, and taken back.
func TestThousands(t *testing.T) {
	const keys = 5000
	for _, back := range []bool{true, false} {
		x := made[api.Cell, api.Value](t)
		key := func(n int) api.Cell { return api.Cell{Rule: n%7 + 1, Entity: n / 7, Partner: -n} }
		for n := range keys {
			x.keys = append(x.keys, key(n))
			if n%3 > 0 {
				x.set(t, key(n), api.Value{Amount: n})
			}
		}
		x.begin(t)
		x.set(t, key(0), api.Value{Amount: -1})
		x.begin(t)
		for n := range keys {
			x.set(t, key(n), api.Value{Amount: 2 * n, Err: api.ErrRate})
			if n%2 > 0 {
				x.drop(t, key(n))
			}
			if n%5 > 0 {
				x.set(t, key(n), api.Value{Amount: 3 * n})
			}
			if n%4 > 1 {
				x.drop(t, key(n))
			}
		}
		x.holds(t)
		if back {
			x.back(t)
		} else {
			x.keep(t)
		}
		x.holds(t)
		x.allBack(t)
		for _, k := range x.keys {
			x.drop(t, k)
		}
		x.holds(t)
	}
}

// step is a call of a book, and of what it has to answer.
type step func(t *testing.T, x *both[int, int])

// drawn draws calls, among them beginnings, all of which are ended: none of these was open ahead of them.
func drawn(r *rand.Rand, keys int) []step {
	var steps []step
	open := 0
	for range r.Intn(20) {
		k, v := r.Intn(keys), r.Intn(3)
		switch n := r.Intn(10); {
		case n < 4:
			steps = append(steps, func(t *testing.T, x *both[int, int]) { x.set(t, k, v) })
		case n < 7:
			steps = append(steps, func(t *testing.T, x *both[int, int]) { x.drop(t, k) })
		case n < 8:
			open++
			steps = append(steps, func(t *testing.T, x *both[int, int]) { x.begin(t) })
		case open == 0:
		case n < 9:
			open--
			steps = append(steps, func(t *testing.T, x *both[int, int]) { x.keep(t) })
		default:
			open--
			steps = append(steps, func(t *testing.T, x *both[int, int]) { x.back(t) })
		}
	}
	for range open {
		steps = append(steps, func(t *testing.T, x *both[int, int]) { x.keep(t) })
	}
	return steps
}

// P16.4, P16.5: whatever was done since a beginning: with Back it is as if it had not been done, with Keep as if there had been no such beginning, in all that follows, and in what the beginnings around it bring back. (The draw is the same each time.)
func TestAsIf(t *testing.T) {
	const keys = 4
	r := rand.New(rand.NewSource(16))
	for range 3000 {
		x, y := made[int, int](t, 0, 1, 2, 3), made[int, int](t, 0, 1, 2, 3)
		each := func(steps []step, to ...*both[int, int]) {
			for _, do := range steps {
				for _, z := range to {
					do(t, z)
				}
			}
		}
		around := r.Intn(4)
		each(drawn(r, keys), x, y)
		for range around {
			x.begin(t)
			y.begin(t)
			each(drawn(r, keys), x, y)
		}
		x.begin(t)
		if since := drawn(r, keys); r.Intn(2) == 0 {
			each(since, x)
			x.back(t)
		} else {
			each(since, x, y)
			x.keep(t)
		}
		alike(t, x.b, y.b, keys)
		each(drawn(r, keys), x, y)
		for range around {
			alike(t, x.b, y.b, keys)
			if r.Intn(3) == 0 {
				x.keep(t)
				y.keep(t)
			} else {
				x.back(t)
				y.back(t)
			}
		}
		alike(t, x.b, y.b, keys)
		x.allBack(t)
		y.allBack(t)
	}
}

// alike asks two books for all that can be told.
func alike(t *testing.T, a, b *Book[int, int], keys int) {
	t.Helper()
	if a.Len() != b.Len() || a.Depth() != b.Depth() {
		t.Fatalf("Len %d and %d, Depth %d and %d", a.Len(), b.Len(), a.Depth(), b.Depth())
	}
	for k := range keys {
		v, ok := a.Get(k)
		if w, has := b.Get(k); v != w || ok != has {
			t.Fatalf("Get(%d): %d, %v and %d, %v", k, v, ok, w, has)
		}
	}
}

// quick does a call of two keys, of seven, and looks at all, of books of numbers.
func quick(t *testing.T, x *both[int, int], call, step int) {
	switch call {
	case 0, 1:
		x.set(t, call, step)
	case 2, 3:
		x.drop(t, call-2)
	case 4:
		x.begin(t)
	case 5:
		x.keep(t)
	default:
		x.back(t)
	}
	for _, k := range x.keys {
		v, ok := x.b.Get(k)
		if want, has := x.m.has[k]; v != want || ok != has {
			t.Fatalf("Get(%d): %d, %v, not %d, %v", k, v, ok, want, has)
		}
	}
}

// every does every row of calls, up to a length, and then takes back what is open.
func every(t *testing.T, longest int, calls, keys []int) {
	t.Helper()
	rows := 1
	for range longest {
		rows *= len(calls)
	}
	for row := range rows {
		x := &both[int, int]{New[int, int](), &model[int, int]{has: map[int]int{}}, keys}
		for step, rest := 0, row; step < longest; step, rest = step+1, rest/len(calls) {
			quick(t, x, calls[rest%len(calls)], step)
		}
		for len(x.m.begins) > 0 {
			quick(t, x, 6, 0)
		}
	}
}

// P16.1 to P16.5: every row of calls, up to a length, with one key and with two, is told as the chapter's words tell it.
func TestAllRows(t *testing.T) {
	every(t, 8, []int{0, 2, 4, 5, 6}, []int{0})
	every(t, 6, []int{0, 1, 2, 3, 4, 5, 6}, []int{0, 1})
}

// againstModel does calls as they are drawn, with as many beginnings among them as are drawn too.
func againstModel[K comparable, V any](t *testing.T, r *rand.Rand, key func(int) K, value func(*rand.Rand) V) {
	t.Helper()
	x := made[K, V](t)
	seen := map[K]struct{}{}
	for n := range 1 + r.Intn(20) {
		if _, is := seen[key(n)]; !is {
			seen[key(n)] = struct{}{}
			x.keys = append(x.keys, key(n))
		}
	}
	begins := 1 + r.Intn(6) // of 12 calls that are no Set or Drop
	for range 200 {
		k := x.keys[r.Intn(len(x.keys))]
		switch n := r.Intn(20); {
		case n < 8:
			x.set(t, k, value(r))
		case n < 13:
			x.drop(t, k)
		case r.Intn(12) < begins:
			x.begin(t)
		case r.Intn(2) == 0:
			x.keep(t)
		default:
			x.back(t)
		}
		if r.Intn(5) == 0 {
			x.holds(t)
		}
	}
	x.holds(t)
	x.allBack(t)
}

// P16.1 to P16.5: keys and values of several kinds. (The draw is the same each time.)
func TestAgainstModel(t *testing.T) {
	r := rand.New(rand.NewSource(61))
	number := func(r *rand.Rand) int { return r.Intn(4) }
	list := func(r *rand.Rand) []int { return [][]int{nil, {}, {r.Int()}, {1, 2}}[r.Intn(4)] }
	for range 60 {
		againstModel(t, r, numberKey, number)
		againstModel(t, r, textKey, func(r *rand.Rand) string { return textKey(r.Intn(4)) })
		againstModel(t, r, cellKey, func(r *rand.Rand) api.Value { return api.Value{Amount: r.Intn(2), Err: api.Errno(r.Intn(2))} })
		againstModel(t, r, pairKey, list)
		againstModel(t, r, arrayKey, func(r *rand.Rand) *pair { return []*pair{nil, {name: "a"}}[r.Intn(2)] })
		againstModel(t, r, anyKey, func(r *rand.Rand) any { return anyKey(r.Intn(8)) })
		againstModel(t, r, floatKey, func(r *rand.Rand) float64 { return r.Float64() })
		againstModel(t, r, boolKey, func(r *rand.Rand) bool { return r.Intn(2) == 0 })
	}
}

// Rule 4: what is handed in is the book's own: what a key or a value was made of may be set anew.
func TestCopies(t *testing.T) {
	key, value := [3]int{1, 2, 3}, pair{name: "a"}
	b := New[[3]int, pair]()
	b.Set(key, value)
	b.Begin()
	key[0], value.name = 9, "b"
	b.Set(key, value)
	key[1], value.name = 9, "c"
	for k, want := range map[[3]int]pair{{1, 2, 3}: {name: "a"}, {9, 2, 3}: {name: "b"}, {9, 9, 3}: {}} {
		if v, ok := b.Get(k); v != want || ok != (want != pair{}) {
			t.Errorf("Get(%v): %v, %v", k, v, ok)
		}
	}
	got, _ := b.Get([3]int{1, 2, 3})
	got.name = "d"
	b.Back()
	if v, ok := b.Get([3]int{1, 2, 3}); v.name != "a" || !ok || b.Len() != 1 {
		t.Errorf("behind Back: %v, %v; Len %d", v, ok, b.Len())
	}
	bytes := []byte("abc")
	texts := New[string, int]()
	texts.Set(string(bytes), 1)
	copy(bytes, "bcd")
	if v, ok := texts.Get("abc"); v != 1 || !ok {
		t.Errorf("abc: %d, %v", v, ok)
	}
}

// P16.2: keys are the same as Go's == says.
func TestSameKeys(t *testing.T) {
	floats := New[float64, string]()
	floats.Set(0, "a")
	floats.Begin()
	floats.Set(math.Copysign(0, -1), "b") // -0 == 0
	if v, ok := floats.Get(0); v != "b" || !ok || floats.Len() != 1 {
		t.Errorf("0: %q, %v; Len %d", v, ok, floats.Len())
	}
	floats.Back()
	if v, ok := floats.Get(math.Copysign(0, -1)); v != "a" || !ok || floats.Len() != 1 {
		t.Errorf("-0: %q, %v; Len %d", v, ok, floats.Len())
	}
	one, other := &pair{}, &pair{}
	places := New[*pair, int]()
	places.Set(one, 1)
	if _, ok := places.Get(other); ok || places.Drop(other) != api.ErrTwice || places.Drop(one) != api.OK {
		t.Error("another place is the same key")
	}
}

// P16.1 to P16.3: great keys and values are ones as any other.
func TestGreat(t *testing.T) {
	type page [10000]int
	x := made[page, page](t, page{}, page{1}, page{9999: 1})
	x.do(t, "S01 S12 B S03 D1 S20 B S21 K U D2 D0", func(n int) page { return page{5: n} })
}

// stranger is a key that need not be the same as itself.
type stranger struct {
	a float64
	b any
}

// strangers are keys that are the same as none, not even as themselves; a map would panic of some of them.
func strangers() []any {
	return []any{math.NaN(), []int{1}, map[int]int{}, func() {}, [1]any{[]int{}}, stranger{math.NaN(), []int{}}, stranger{1, []string{"a"}}, [2]any{1, math.NaN()}}
}

// P16.1 to P16.4, and no call panics (rule 1): of keys that are the same as none, not even as themselves, each one that is set is another one: it has its value, which nobody can ask for.
func TestKeysThatAreNeverFound(t *testing.T) {
	b := New[any, int]()
	b.Set("a", 1)
	look := func(length, depth int) {
		t.Helper()
		for _, k := range strangers() {
			if v, ok := b.Get(k); v != 0 || ok {
				t.Errorf("Get(%T): %d, %v", k, v, ok)
			}
			if e := b.Drop(k); e != api.ErrTwice {
				t.Errorf("Drop(%T): %v", k, e)
			}
		}
		if v, ok := b.Get("a"); v != 1 || !ok || b.Len() != length || b.Depth() != depth {
			t.Errorf("a: %d, %v; Len %d, not %d; Depth %d, not %d", v, ok, b.Len(), length, b.Depth(), depth)
		}
	}
	set := func() {
		t.Helper()
		for _, k := range strangers() {
			had := b.Len()
			if e := b.Set(k, 1); e != api.OK || b.Len() != had+1 {
				t.Errorf("Set(%T): %v; Len %d behind %d", k, e, b.Len(), had)
			}
		}
	}
	n := len(strangers())
	look(1, 0)
	set()
	look(1+n, 0)
	b.Begin()
	set()
	look(1+2*n, 1)
	b.Begin()
	set()
	look(1+3*n, 2)
	b.Back()
	look(1+2*n, 1)
	b.Begin()
	set()
	b.Keep()
	look(1+3*n, 1)
	b.Back()
	look(1+n, 0)
	if len(b.values) != 1 {
		t.Error("the map keeps", len(b.values))
	}
	floats := New[float64, int]()
	floats.Begin()
	floats.Set(math.NaN(), 1)
	floats.Set(math.NaN(), 1)
	if floats.Len() != 2 || floats.Back() != api.OK || floats.Len() != 0 || len(floats.values) != 0 {
		t.Error("floats:", floats.Len(), len(floats.values))
	}
}

// spare tells how many places of the list's spare room lead to something.
func spare[K comparable, V any](b *Book[K, V]) int {
	n := 0
	for _, x := range b.open[len(b.open):cap(b.open)] {
		if x.keys != nil || x.lost != 0 {
			n++
		}
	}
	return n
}

// known tells how many keys each beginning that is open knows.
func known[K comparable, V any](b *Book[K, V]) []int {
	var l []int
	for _, x := range b.open {
		l = append(l, len(x.keys))
	}
	return l
}

// No more is kept than what may be taken back: a key once, however often it changed, and one that came and went not at all; and nothing behind the last beginning.
func TestNothingKept(t *testing.T) {
	b := New[string, int]()
	look := func(want ...int) {
		t.Helper()
		if !slices.Equal(known(b), want) || spare(b) != 0 {
			t.Errorf("known: %v, not %v; in spare room: %d", known(b), want, spare(b))
		}
	}
	b.Set("a", 1)
	look()
	b.Begin()
	for n := range 1000 {
		b.Set("a", n)
		b.Set("b", n)
		b.Set("c", n)
		b.Drop("c")
		look(2)
	}
	b.Begin()
	look(2, 0)
	b.Drop("b")
	b.Set("a", 5)
	b.Set("d", 5)
	b.Drop("d")
	look(2, 2)
	b.Keep()
	look(1) // b came and went
	b.Begin()
	b.Set("a", 7)
	b.Set("d", 7)
	look(1, 2)
	b.Back()
	look(1)
	b.Drop("a")
	look(1)
	b.Keep()
	look()
	b.Set("a", 1)
	b.Drop("a")
	look()
	for range mostOpen {
		b.Begin()
		b.Set("a", 1)
	}
	for range mostOpen {
		b.Back()
		if spare(b) != 0 {
			t.Error("in spare room:", spare(b))
		}
	}
	look()
}

// No value is held that no call can tell any more.
func TestValuesLetGo(t *testing.T) {
	b := New[int, *pair]()
	var gone []weak.Pointer[pair]
	set := func(k int) {
		x := &pair{name: strconv.Itoa(len(gone))}
		gone = append(gone, weak.Make(x))
		b.Set(k, x)
	}
	look := func(want ...bool) {
		t.Helper()
		runtime.GC()
		var held []bool
		for _, w := range gone {
			held = append(held, w.Value() != nil)
		}
		if !slices.Equal(held, want) {
			t.Errorf("held: %v, not %v", held, want)
		}
		runtime.KeepAlive(b)
	}
	set(1)
	set(1)
	set(2)
	b.Drop(2)
	look(false, true, false)
	b.Begin()
	set(1)
	set(1)
	look(false, true, false, false, true)
	b.Begin()
	set(1)
	look(false, true, false, false, true, true)
	b.Keep() // what 1 had at the inner beginning nobody asks for any more
	look(false, true, false, false, false, true)
	b.Begin()
	set(3)
	b.Back()
	look(false, true, false, false, false, true, false)
	b.Keep()
	look(false, false, false, false, false, true, false)
}

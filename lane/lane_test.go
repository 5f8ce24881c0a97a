package lane

import (
	"math"
	"math/rand"
	"reflect"
	"runtime"
	"slices"
	"strconv"
	"testing"
	"time"
	"weak"

	"gavelkind/api"
)

const most, least = math.MaxInt, math.MinInt

type job struct {
	size int
	name string
}

func same(a, b any) bool { return reflect.DeepEqual(a, b) }

// atOnce fails a test whose call waits, instead of waiting with it.
func atOnce(t *testing.T, name string, call func()) {
	t.Helper()
	done := make(chan bool)
	go func() {
		defer close(done)
		call()
	}()
	select {
	case <-done:
	case <-time.After(10 * time.Second):
		t.Fatalf("%s waits", name)
	}
}

// made makes a queue, and puts things in.
func made[T any](t *testing.T, room int, things ...T) *Queue[T] {
	t.Helper()
	q, e := New[T](room)
	if q == nil || e != api.OK || q.Len() != 0 || q.Room() != room {
		t.Fatalf("New(%d): %v, %v, Len %d, Room %d", room, q, e, q.Len(), q.Room())
	}
	put(t, q, things...)
	return q
}

func put[T any](t *testing.T, q *Queue[T], things ...T) {
	t.Helper()
	for _, x := range things {
		had, room := q.Len(), q.Room()
		if e := q.Put(x); e != api.OK || q.Len() != had+1 || q.Room() != room {
			t.Fatalf("Put(%v) behind %d things: %v, Len %d, Room %d of %d", x, had, e, q.Len(), q.Room(), room)
		}
	}
}

func take[T any](t *testing.T, q *Queue[T], want ...T) {
	t.Helper()
	for i, w := range want {
		had, room := q.Len(), q.Room()
		if x, ok := q.Take(); !same(x, w) || !ok || q.Len() != had-1 || q.Room() != room {
			t.Fatalf("Take %d: %v, %v, not %v; Len %d behind %d, Room %d of %d", i, x, ok, w, q.Len(), had, q.Room(), room)
		}
	}
}

// isEmpty takes from an empty queue, twice, as nothing is to be changed by that.
func isEmpty[T any](t *testing.T, q *Queue[T], room int) {
	t.Helper()
	var none T
	for range 2 {
		if x, ok := q.Take(); !same(x, none) || ok || q.Len() != 0 || q.Room() != room {
			t.Fatalf("Take of an empty queue: %v, %v; Len %d, Room %d, not %d", x, ok, q.Len(), q.Room(), room)
		}
	}
}

// isFull puts things into a full queue, twice, as nothing is to be changed by that.
func isFull[T any](t *testing.T, q *Queue[T], things ...T) {
	t.Helper()
	room := q.Room()
	for range 2 {
		for _, x := range things {
			if e := q.Put(x); e != api.ErrFull || q.Len() != room || q.Room() != room {
				t.Fatalf("Put(%v) into a full queue: %v; Len %d, Room %d, not %d", x, e, q.Len(), q.Room(), room)
			}
		}
	}
}

// allCome takes all that there is.
func allCome[T any](t *testing.T, q *Queue[T], want ...T) {
	t.Helper()
	if q.Len() != len(want) {
		t.Fatalf("Len: %d, not %d", q.Len(), len(want))
	}
	room := q.Room()
	take(t, q, want...)
	isEmpty(t, q, room)
}

// either takes from one of two queues, and looks at what is left in both.
func either[T any](t *testing.T, a, b *Queue[T], want T, wantOk bool, leftA, leftB int) {
	t.Helper()
	if x, ok := Either(a, b); !same(x, want) || ok != wantOk || a.Len() != leftA || b.Len() != leftB {
		t.Fatalf("Either: %v, %v, not %v, %v; %d and %d left, not %d and %d", x, ok, want, wantOk, a.Len(), b.Len(), leftA, leftB)
	}
}

// P10.1: each room that may be, and the edges of those that may not.
func TestNew(t *testing.T) {
	for room := 1; room <= 1000; room++ {
		isEmpty(t, made[int](t, room), room)
	}
	for _, room := range []int{0, 1001, -1, 1002, 1024, -1000, 2000, 20000, 1 << 32, 1<<32 + 1, -1 << 32, most, most - 1, least, least + 1, least + 1000} {
		if q, e := New[int](room); q != nil || e != api.ErrArg {
			t.Errorf("New(%d): %v, %v", room, q, e)
		}
		if q, e := New[string](room); q != nil || e != api.ErrArg {
			t.Errorf("New(%d), of texts: %v, %v", room, q, e)
		}
		if q, e := New[job](room); q != nil || e != api.ErrArg {
			t.Errorf("New(%d), of jobs: %v, %v", room, q, e)
		}
	}
	isEmpty(t, made[string](t, 1), 1)
	isEmpty(t, made[job](t, 1000), 1000)
	isEmpty(t, made[any](t, 7), 7)
	isEmpty(t, made[[]int](t, 7), 7)
	isEmpty(t, made[*job](t, 7), 7)
	isEmpty(t, made[struct{}](t, 7), 7)
}

// P10.1: one queue has nothing to do with another one.
func TestQueuesApart(t *testing.T) {
	p, q := made(t, 2, "a", "b"), made[string](t, 2)
	isEmpty(t, q, 2)
	isFull(t, p, "c")
	put(t, q, "d")
	allCome(t, p, "a", "b")
	allCome(t, q, "d")
}

// P10.1: Len and Room behind each Put and Take, for each of the smaller rooms and the greatest ones.
func TestLenAndRoom(t *testing.T) {
	for _, room := range []int{1, 2, 3, 4, 5, 6, 7, 8, 9, 10, 63, 64, 65, 999, 1000} {
		q := made[int](t, room)
		for round := range 3 {
			for n := range room {
				if e := q.Put(n); e != api.OK || q.Len() != n+1 || q.Room() != room {
					t.Fatalf("round %d: Put %d of %d: %v, Len %d, Room %d", round, n, room, e, q.Len(), q.Room())
				}
			}
			isFull(t, q, -1)
			for n := range room {
				if x, ok := q.Take(); x != n || !ok || q.Len() != room-n-1 || q.Room() != room {
					t.Fatalf("round %d: Take %d of %d: %v, %v, Len %d, Room %d", round, n, room, x, ok, q.Len(), q.Room())
				}
			}
			isEmpty(t, q, room)
		}
	}
}

// P10.2: ordinary calls, written out: numbers, texts, structs and others.
func TestPutAndTake(t *testing.T) {
	q := made(t, 1, 7) // the chapter's example
	isFull(t, q, 8)
	allCome(t, q, 7)
	allCome(t, made(t, 5, 3, 1, 2), 3, 1, 2)
	allCome(t, made(t, 5, most, least, 0, -1, most), most, least, 0, -1, most)
	allCome(t, made(t, 4, "b", "", "a\x00\xff", "b"), "b", "", "a\x00\xff", "b")
	allCome(t, made(t, 4, job{2, "a"}, job{1, "b"}, job{2, "a"}), job{2, "a"}, job{1, "b"}, job{2, "a"})
	allCome(t, made(t, 2, api.Cell{Rule: 1}, api.Cell{Rule: 7, Partner: 2}), api.Cell{Rule: 1}, api.Cell{Rule: 7, Partner: 2})
	allCome(t, made(t, 2, api.Command{Kind: api.Post, Lines: []api.Line{{Entity: 1}}}), api.Command{Kind: api.Post, Lines: []api.Line{{Entity: 1}}})
	allCome(t, made(t, 3, []int{1}, nil, []int{}), []int{1}, nil, []int{})
	allCome[any](t, made[any](t, 3, 1, "a", job{1, "a"}), 1, "a", job{1, "a"})
	allCome(t, made(t, 2, 0.5, math.Inf(-1)), 0.5, math.Inf(-1))
	allCome(t, made(t, 2, struct{}{}, struct{}{}), struct{}{}, struct{}{})
	allCome(t, made(t, 2, [2]int{1, 2}, [2]int{2, 1}), [2]int{1, 2}, [2]int{2, 1})
}

// P10.2: the empty thing is one as any other: it comes with true.
func TestEmptyThing(t *testing.T) {
	allCome(t, made(t, 3, 0, 0, 1), 0, 0, 1)
	allCome(t, made(t, 2, "", ""), "", "")
	allCome(t, made(t, 2, job{}), job{})
	allCome[any](t, made[any](t, 3, nil, 1, nil), nil, 1, nil)
	allCome(t, made[*int](t, 1, nil), nil)
	allCome(t, made[[]int](t, 1, nil), nil)
	isFull(t, made(t, 1, 0), 0)
	isFull(t, made[*int](t, 1, nil), nil)
	put(t, made(t, 2, ""), "")
}

// P10.2: a full queue refuses each thing, and leaves no trace of it; behind a Take there is room for one.
func TestFull(t *testing.T) {
	for _, room := range []int{1, 2, 3, 10, 999, 1000} {
		q := made[int](t, room)
		var want []int
		for n := range room {
			put(t, q, n)
			want = append(want, n)
		}
		isFull(t, q, -1, 0, most)
		for n := range 2*room + 3 {
			take(t, q, want[0])
			put(t, q, 1000+n)
			want = append(want[1:], 1000+n)
			isFull(t, q, -1, n)
		}
		allCome(t, q, want...)
		put(t, q, 5)
		allCome(t, q, 5)
	}
}

// P10.2: Take of a queue that has nothing yet, and of one that was emptied; a Put behind that.
func TestEmptied(t *testing.T) {
	q := made[job](t, 2)
	isEmpty(t, q, 2)
	for range 5 {
		put(t, q, job{1, "a"})
		allCome(t, q, job{1, "a"})
		put(t, q, job{2, "b"}, job{})
		isFull(t, q, job{}, job{3, "c"})
		allCome(t, q, job{2, "b"}, job{})
	}
}

// noQueue asks a queue that New did not make for all, twice, as nothing is to be kept in it.
func noQueue[T any](t *testing.T, name string, q *Queue[T], things ...T) {
	t.Helper()
	var none T
	atOnce(t, name, func() {
		for range 2 {
			for _, x := range append(things, none) {
				if e := q.Put(x); e != api.ErrNil {
					t.Errorf("%s: Put(%v): %v", name, x, e)
				}
				if x, ok := q.Take(); !same(x, none) || ok {
					t.Errorf("%s: Take: %v, %v", name, x, ok)
				}
				if q.Len() != 0 || q.Room() != 0 {
					t.Errorf("%s: Len %d, Room %d", name, q.Len(), q.Room())
				}
				if x, ok := Either(q, q); !same(x, none) || ok {
					t.Errorf("%s: Either of it twice: %v, %v", name, x, ok)
				}
			}
		}
	})
}

// P10.1, P10.2, P10.3: a nil queue, and a plain one.
func TestNoQueue(t *testing.T) {
	noQueue(t, "nil", nil, 1, -1, most)
	noQueue(t, "plain", &Queue[int]{}, 1, -1, most)
	noQueue(t, "nil, of texts", nil, "a", "")
	noQueue(t, "plain, of texts", &Queue[string]{}, "a", "")
	noQueue(t, "nil, of jobs", nil, job{1, "a"})
	noQueue(t, "plain, of jobs", new(Queue[job]), job{1, "a"})
	noQueue(t, "nil, of lists", nil, []int{1})
	refused, _ := New[int](0)
	noQueue(t, "refused", refused, 1)
	var plain Queue[any]
	noQueue(t, "plain, not of new", &plain, 1, "a", nil)
}

// P10.3: ordinary calls, written out.
func TestEither(t *testing.T) {
	a, b := made[int](t, 3), made[int](t, 3)
	either(t, a, b, 0, false, 0, 0)
	put(t, b, 1, 2)
	either(t, a, b, 1, true, 0, 1) // the first one is empty
	put(t, a, 3, 4)
	either(t, a, b, 3, true, 1, 1) // something in both
	either(t, b, a, 2, true, 0, 1) // the other way round
	either(t, a, b, 4, true, 0, 0) // the other one is empty
	either(t, a, b, 0, false, 0, 0)
	put(t, b, 0)
	either(t, a, b, 0, true, 0, 0) // the empty thing, with true
	put(t, a, 0)
	put(t, b, 5)
	either(t, a, b, 0, true, 0, 1)
	either(t, a, b, 5, true, 0, 0)
	isEmpty(t, a, 3)
	isEmpty(t, b, 3)
	c, d := made(t, 1, "a"), made(t, 1000, "b", "c")
	either(t, c, d, "a", true, 0, 2)
	either(t, c, d, "b", true, 0, 1)
	put(t, c, "")
	either(t, c, d, "", true, 0, 1)
	either(t, c, d, "c", true, 0, 0)
	either(t, c, d, "", false, 0, 0)
	e, f := made(t, 2, job{1, "a"}), made(t, 2, job{2, "b"}, job{})
	either(t, e, f, job{1, "a"}, true, 0, 2)
	either(t, e, f, job{2, "b"}, true, 0, 1)
	either(t, e, f, job{}, true, 0, 0)
	either(t, e, f, job{}, false, 0, 0)
}

// P10.3: a nil queue or a plain one, in either place, is one that has nothing.
func TestEitherOfNoQueue(t *testing.T) {
	for _, none := range []*Queue[string]{nil, {}} {
		for _, other := range []*Queue[string]{nil, {}} {
			either(t, none, other, "", false, 0, 0)
		}
		q := made(t, 3, "a", "b", "")
		either(t, none, q, "a", true, 0, 2)
		either(t, q, none, "b", true, 1, 0)
		either(t, none, q, "", true, 0, 0)
		either(t, none, q, "", false, 0, 0)
		either(t, q, none, "", false, 0, 0)
		put(t, q, "c")
		either(t, q, none, "c", true, 0, 0)
		isEmpty(t, q, 3)
	}
}

// P10.3: the same queue twice: one thing a call.
func TestEitherOfOneQueue(t *testing.T) {
	q := made(t, 3, 1, 0, 2)
	either(t, q, q, 1, true, 2, 2)
	either(t, q, q, 0, true, 1, 1)
	put(t, q, 3)
	either(t, q, q, 2, true, 1, 1)
	either(t, q, q, 3, true, 0, 0)
	either(t, q, q, 0, false, 0, 0)
	isEmpty(t, q, 3)
}

// P10.4: a queue whose room was used up several times over, with each number of things left in it between.
func TestOrder(t *testing.T) {
	for _, room := range []int{1, 2, 3, 4, 5, 7, 8, 100, 1000} {
		for _, left := range []int{0, 1, 2, room / 2, room - 1} {
			if left >= room {
				continue
			}
			q, puts, takes := made[int](t, room), 0, 0
			for puts < 5*room+20 {
				for q.Len() < room {
					put(t, q, puts)
					puts++
				}
				isFull(t, q, -puts)
				for q.Len() > left {
					take(t, q, takes)
					takes++
				}
			}
			for ; takes < puts; takes++ {
				take(t, q, takes)
			}
			isEmpty(t, q, room)
		}
	}
}

// P10.5: as long as there is something in the first queue, what comes is out of it, whatever comes to the other one meanwhile; then the other one's things come as they were put.
func TestFirst(t *testing.T) {
	a, b := made[int](t, 1000), made[int](t, 1000)
	for n := range 1000 {
		put(t, a, n)
		put(t, b, 5000+n)
	}
	for n := range 1000 {
		either(t, a, b, n, true, 999-n, 1000)
	}
	for n := range 500 {
		either(t, a, b, 5000+n, true, 0, 999-n)
		put(t, a, n)
		either(t, a, b, n, true, 0, 999-n)
	}
	for n := 500; n < 1000; n++ {
		put(t, a, -n, -n-1)
		either(t, a, b, -n, true, 1, 1000-n)
		either(t, a, b, -n-1, true, 0, 1000-n)
		either(t, a, b, 5000+n, true, 0, 999-n)
	}
	either(t, a, b, 0, false, 0, 0)
}

// model tells by a list and by the chapter's words what a queue has to answer.
type model[T any] struct {
	room   int
	things []T
}

func (m *model[T]) put(x T) api.Errno {
	if len(m.things) == m.room {
		return api.ErrFull
	}
	m.things = append(m.things, x)
	return api.OK
}

func (m *model[T]) take() (T, bool) {
	var none T
	if len(m.things) == 0 {
		return none, false
	}
	x := m.things[0]
	m.things = m.things[1:]
	return x, true
}

// two are two queues and what they have to answer.
type two[T any] struct {
	a, b   *Queue[T]
	ma, mb *model[T]
}

func makeTwo[T any](t *testing.T, roomA, roomB int) two[T] {
	t.Helper()
	return two[T]{made[T](t, roomA), made[T](t, roomB), &model[T]{room: roomA}, &model[T]{room: roomB}}
}

// do does one call, of six, to the queues and to the lists.
func (w two[T]) do(t *testing.T, call int, thing T) {
	t.Helper()
	q, m, other, n := w.a, w.ma, w.b, w.mb
	if call%2 == 1 {
		q, m, other, n = w.b, w.mb, w.a, w.ma
	}
	switch call / 2 {
	case 0:
		if e, want := q.Put(thing), m.put(thing); e != want {
			t.Fatalf("call %d: Put(%v): %v, not %v", call, thing, e, want)
		}
	case 1:
		x, ok := q.Take()
		if want, there := m.take(); !same(x, want) || ok != there {
			t.Fatalf("call %d: Take: %v, %v, not %v, %v", call, x, ok, want, there)
		}
	default:
		from := m
		if len(m.things) == 0 {
			from = n
		}
		x, ok := Either(q, other)
		if want, there := from.take(); !same(x, want) || ok != there {
			t.Fatalf("call %d: Either: %v, %v, not %v, %v", call, x, ok, want, there)
		}
	}
	if w.a.Len() != len(w.ma.things) || w.b.Len() != len(w.mb.things) || w.a.Room() != w.ma.room || w.b.Room() != w.mb.room {
		t.Fatalf("call %d: Len %d and %d, not %d and %d; Room %d and %d", call, w.a.Len(), w.b.Len(), len(w.ma.things), len(w.mb.things), w.a.Room(), w.b.Room())
	}
}

// P10.1 to P10.5: every row of calls of two small queues, up to a length, is told as the chapter's words tell it.
func TestAllRows(t *testing.T) {
	const longest, calls = 6, 6
	rows := 1
	for range longest {
		rows *= calls
	}
	for _, room := range []int{1, 2, 3} {
		for row := range rows {
			w := makeTwo[int](t, room, 2)
			for step, rest := 0, row; step < longest; step, rest = step+1, rest/calls {
				w.do(t, rest%calls, step)
			}
			allCome(t, w.a, w.ma.things...)
			allCome(t, w.b, w.mb.things...)
		}
	}
}

// againstModel does calls as they are drawn, with as many puts among them as are drawn too.
func againstModel[T any](t *testing.T, r *rand.Rand, thing func(*rand.Rand) T) {
	t.Helper()
	w := makeTwo[T](t, 1+r.Intn(12), 1+r.Intn(12))
	puts := 1 + r.Intn(9) // of 10 calls
	for range 200 {
		if r.Intn(10) < puts {
			w.do(t, r.Intn(2), thing(r))
		} else {
			w.do(t, 2+r.Intn(4), thing(r))
		}
	}
	allCome(t, w.a, w.ma.things...)
	allCome(t, w.b, w.mb.things...)
}

// P10.1 to P10.5: things of several kinds. (The draw is the same each time.)
func TestAgainstModel(t *testing.T) {
	r := rand.New(rand.NewSource(10))
	for range 150 {
		againstModel(t, r, func(r *rand.Rand) int { return int(r.Uint64()) >> r.Intn(64) })
		againstModel(t, r, func(r *rand.Rand) int { return r.Intn(2) })
		againstModel(t, r, func(r *rand.Rand) string { return strconv.Itoa(r.Intn(100))[1:] })
		againstModel(t, r, func(r *rand.Rand) job { return job{r.Intn(2), strconv.Itoa(r.Intn(100))} })
		againstModel(t, r, func(r *rand.Rand) api.Cell { return api.Cell{Rule: r.Intn(8), Entity: r.Intn(41)} })
		againstModel(t, r, func(r *rand.Rand) []int { return []int{r.Int(), r.Int(), r.Int()}[:r.Intn(4)] })
	}
}

// Nobody waits: not to put into a full queue, not to take from an empty one, not with one that New did not make.
func TestNobodyWaits(t *testing.T) {
	full, empty, plain := made(t, 1, 7), made[int](t, 1), &Queue[int]{}
	atOnce(t, "Put", func() { full.Put(1); plain.Put(1); (*Queue[int])(nil).Put(1) })
	atOnce(t, "Take", func() { empty.Take(); plain.Take(); (*Queue[int])(nil).Take() })
	atOnce(t, "Len", func() { full.Len(); empty.Len(); plain.Len() })
	atOnce(t, "Room", func() { full.Room(); empty.Room(); plain.Room() })
	for _, a := range []*Queue[int]{empty, plain, nil} {
		for _, b := range []*Queue[int]{empty, plain, nil} {
			atOnce(t, "Either", func() { Either(a, b) })
		}
	}
	allCome(t, full, 7)
	isEmpty(t, empty, 1)
}

// P10.4: what one puts, while another one takes, comes in its order, each thing once.
func TestTwoWhoWork(t *testing.T) {
	const things = 5000
	q, side := made[int](t, 3), made[int](t, 1)
	atOnce(t, "Put", func() {
		go func() {
			for n := range things {
				for q.Put(n) != api.OK {
					runtime.Gosched()
				}
			}
		}()
		for n := 0; n < things; {
			x, ok := Either(side, q)
			if !ok {
				runtime.Gosched()
				continue
			}
			if x != n {
				t.Errorf("%d came, not %d", x, n)
				return
			}
			n++
		}
	})
	isEmpty(t, q, 3)
}

// Rule 4: a thing that was put is the queue's own: what its variable is set to later does not come.
func TestThingsAreCopies(t *testing.T) {
	list, one := [3]int{1, 2, 3}, job{1, "a"}
	lists, jobs := made(t, 2, list), made(t, 2, one)
	list[0], one.name = 9, "b"
	put(t, lists, list)
	put(t, jobs, one)
	list[1], one.size = 9, 9
	allCome(t, lists, [3]int{1, 2, 3}, [3]int{9, 2, 3})
	allCome(t, jobs, job{1, "a"}, job{1, "b"})
}

// P10.2: a queue is one of any things, great ones too.
func TestGreatThings(t *testing.T) {
	type page [10000]int
	first, second := page{1, 2}, page{9999: 3}
	q := made(t, 2, first, second)
	isFull(t, q, first)
	allCome(t, q, first, second)
	either(t, q, nil, page{}, false, 0, 0)
}

// No more is kept than what is there: what was taken, or refused, the queue does not hold.
func TestNothingKept(t *testing.T) {
	q := made[*job](t, 3)
	var gone []weak.Pointer[job]
	for n := range 3 {
		x := &job{n, "a"}
		put(t, q, x)
		gone = append(gone, weak.Make(x))
	}
	refused := &job{9, "b"}
	isFull(t, q, refused)
	gone = append(gone, weak.Make(refused))
	for range 2 {
		q.Take()
	}
	runtime.GC()
	var kept []bool
	for _, w := range gone {
		kept = append(kept, w.Value() != nil)
	}
	if !slices.Equal(kept, []bool{false, false, true, false}) {
		t.Errorf("kept: %v", kept)
	}
	runtime.KeepAlive(q)
}

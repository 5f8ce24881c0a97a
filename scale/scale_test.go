package scale

import (
	"math"
	"math/big"
	"math/rand"
	"testing"

	"gavelkind/api"
	"gavelkind/wide"
)

const most, least = math.MaxInt, math.MinInt

// top and low are the greatest and the least wide number.
func top() api.Wide { return api.Wide{Hi: math.MaxInt64, Lo: math.MaxUint64} }
func low() api.Wide { return api.Wide{Hi: math.MinInt64} }

// edges stand where a word wraps round, where signs change, and between.
func edges() []int {
	return []int{least, least + 1, least / 2, -1<<32 - 1, -1 << 32, -7, -3, -2, -1, 0, 1, 2, 3, 7, 1 << 32, 1<<32 + 1, most / 2, most/2 + 1, most - 1, most}
}

// divisors are those of the edges by which may be divided, and more of their neighbours.
func divisors() []int {
	return []int{1, 2, 3, 4, 5, 7, 10, 1<<32 - 1, 1 << 32, 1<<32 + 1, 1 << 62, 1<<62 + 1, most - 2, most - 1, most}
}

// wideEdges are the ends of the range, those of the upper word, and where the lower word carries.
func wideEdges() []api.Wide {
	var l []api.Wide
	for _, hi := range []int64{math.MinInt64, math.MinInt64 + 1, -1 << 62, -2, -1, 0, 1, 2, 1 << 62, math.MaxInt64 - 1, math.MaxInt64} {
		for _, lo := range []uint64{0, 1, 2, 3, 1<<63 - 1, 1 << 63, 1<<63 + 1, math.MaxUint64 - 1, math.MaxUint64} {
			l = append(l, api.Wide{Hi: hi, Lo: lo})
		}
	}
	return l
}

func whole(n int) *big.Int { return big.NewInt(int64(n)) }

func wholeOf(w api.Wide) *big.Int {
	x := new(big.Int).Lsh(big.NewInt(w.Hi), 64)
	return x.Add(x, new(big.Int).SetUint64(w.Lo))
}

func product(a, b int) *big.Int { return new(big.Int).Mul(whole(a), whole(b)) }

// number tells what a call has to answer where the whole number is x.
func number(x *big.Int) (int, api.Errno) {
	if !x.IsInt64() {
		return 0, api.ErrOver
	}
	return int(x.Int64()), api.OK
}

// downward tells the greatest whole number that, times d, is at most x, and what is left. (The divisors are above 0, where big's Div goes downward.)
func downward(x *big.Int, d int) (q, r *big.Int) {
	return new(big.Int).DivMod(x, whole(d), new(big.Int))
}

// nearest is told by the distances of both neighbours, each worked out by itself.
func nearest(x *big.Int, d int) *big.Int {
	below, _ := downward(x, d)
	above := new(big.Int).Add(below, whole(1))
	off := func(q *big.Int) *big.Int {
		gap := new(big.Int).Sub(new(big.Int).Mul(q, whole(d)), x)
		return gap.Abs(gap)
	}
	switch off(below).Cmp(off(above)) {
	case -1:
		return below
	case 1:
		return above
	}
	if below.Bit(0) == 0 {
		return below
	}
	return above
}

// drawnInt, drawn and drawnDivisor draw edges about half of the time, and else numbers of any length.
func drawnInt(r *rand.Rand) int {
	if r.Intn(2) == 0 {
		return edges()[r.Intn(len(edges()))]
	}
	return int(r.Uint64()) >> r.Intn(64)
}

func drawn(r *rand.Rand) api.Wide {
	if r.Intn(2) == 0 {
		return wideEdges()[r.Intn(len(wideEdges()))]
	}
	return api.Wide{Hi: int64(r.Uint64()) >> r.Intn(64), Lo: r.Uint64() >> r.Intn(64)}
}

func drawnDivisor(r *rand.Rand) int {
	if r.Intn(2) == 0 {
		return divisors()[r.Intn(len(divisors()))]
	}
	return max(1, int(r.Uint64()>>1)>>r.Intn(63))
}

// P3.1, P3.2: what Quo and Even tell of numbers, written out: halves with an even and an odd neighbour on either side of 0 among them.
func TestQuoAndEven(t *testing.T) {
	for _, x := range []struct{ n, d, q, r, even int }{
		{7, 2, 3, 1, 4},
		{5, 2, 2, 1, 2},
		{3, 2, 1, 1, 2},
		{1, 2, 0, 1, 0},
		{0, 2, 0, 0, 0},
		{-1, 2, -1, 1, 0},
		{-3, 2, -2, 1, -2},
		{-5, 2, -3, 1, -2},
		{-7, 2, -4, 1, -4},
		{6, 3, 2, 0, 2},
		{7, 3, 2, 1, 2},
		{8, 3, 2, 2, 3},
		{-6, 3, -2, 0, -2},
		{-7, 3, -3, 2, -2},
		{-8, 3, -3, 1, -3},
		{14, 4, 3, 2, 4},
		{13, 4, 3, 1, 3},
		{15, 4, 3, 3, 4},
		{-14, 4, -4, 2, -4},
		{-10, 4, -3, 2, -2},
		{9, 1, 9, 0, 9},
		{-9, 1, -9, 0, -9},
		{most, 1, most, 0, most},
		{least, 1, least, 0, least},
		{most, 2, 1<<62 - 1, 1, 1 << 62},
		{least, 2, -1 << 62, 0, -1 << 62},
		{least + 1, 2, -1 << 62, 1, -1 << 62},
		{most, most, 1, 0, 1},
		{most - 1, most, 0, most - 1, 1},
		{least, most, -2, most - 1, -1},
		{least + 1, most, -1, 0, -1},
		{1 << 62, most, 0, 1 << 62, 1}, // just above a half of the greatest divisor
		{1<<62 - 1, most, 0, 1<<62 - 1, 0},
		{1<<62 - 1, most - 1, 0, 1<<62 - 1, 0}, // just a half
		{-1 << 62, most, -1, 1<<62 - 1, -1},
		{-1<<62 + 1, most - 1, -1, 1<<62 - 1, 0},
	} {
		if q, r, e := Quo(wide.Of(x.n), x.d); q != wide.Of(x.q) || r != x.r || e != api.OK {
			t.Errorf("Quo(%d, %d): %v, %d, %v", x.n, x.d, q, r, e)
		}
		if n, e := Even(wide.Of(x.n), x.d); n != x.even || e != api.OK {
			t.Errorf("Even(%d, %d): %d, %v", x.n, x.d, n, e)
		}
	}
}

// P3.1: what Quo tells at both ends of the wide range, written out.
func TestQuoAtTheEnds(t *testing.T) {
	for _, x := range []struct {
		w api.Wide
		d int
		q api.Wide
		r int
	}{
		{top(), 1, top(), 0},
		{low(), 1, low(), 0},
		{top(), 2, api.Wide{Hi: 1<<62 - 1, Lo: math.MaxUint64}, 1},
		{low(), 2, api.Wide{Hi: -1 << 62}, 0},
		{low(), 3, api.Wide{Hi: -3074457345618258603, Lo: 6148914691236517205}, 1},
		{top(), most, api.Wide{Hi: 1, Lo: 2}, 1},
		{low(), most, api.Wide{Hi: -2, Lo: math.MaxUint64 - 2}, most - 2},
		{api.Wide{Hi: 1}, 2, api.Wide{Lo: 1 << 63}, 0},
		{api.Wide{Hi: 1}, 1, api.Wide{Hi: 1}, 0},
		{api.Wide{Hi: -1}, 2, api.Wide{Hi: -1, Lo: 1 << 63}, 0},
		{api.Wide{Lo: math.MaxUint64}, most, wide.Of(2), 1}, // the lower word has no sign
		{api.Wide{Hi: -1, Lo: math.MaxUint64}, most, wide.Of(-1), most - 1},
		{api.Wide{}, most, api.Wide{}, 0},
	} {
		if q, r, e := Quo(x.w, x.d); q != x.q || r != x.r || e != api.OK {
			t.Errorf("Quo(%v, %d): %v, %d, %v", x.w, x.d, q, r, e)
		}
	}
}

// P3.2: quotients just in range and just beyond it, on either side, written out.
func TestEvenAtTheEndsOfRange(t *testing.T) {
	twice := func(n, more int) api.Wide {
		w, _ := wide.Add(wide.Mul(n, 2), wide.Of(more))
		return w
	}
	for _, x := range []struct {
		name string
		w    api.Wide
		d, n int
		e    api.Errno
	}{
		{"most", wide.Of(most), 1, most, api.OK},
		{"most + 1", api.Wide{Lo: 1 << 63}, 1, 0, api.ErrOver},
		{"least", wide.Of(least), 1, least, api.OK},
		{"least - 1", api.Wide{Hi: -1, Lo: 1<<63 - 1}, 1, 0, api.ErrOver},
		{"most, of 2", twice(most, 0), 2, most, api.OK},
		{"most - a half, of 2", twice(most, -1), 2, most - 1, api.OK},
		{"most + a half, of 2: up to the even one, beyond the range", twice(most, 1), 2, 0, api.ErrOver},
		{"least, of 2", twice(least, 0), 2, least, api.OK},
		{"least - a half, of 2: up to the even one, into the range", twice(least, -1), 2, least, api.OK},
		{"least - 1, of 2", twice(least, -2), 2, 0, api.ErrOver},
		{"least - 3 halves, of 2", twice(least, -3), 2, 0, api.ErrOver},
		{"most, of 3", wide.Mul(3, most), 3, most, api.OK},
		{"top", top(), 1, 0, api.ErrOver},
		{"low", low(), 1, 0, api.ErrOver},
		{"top, of 2", top(), 2, 0, api.ErrOver},
		{"low, of 2", low(), 2, 0, api.ErrOver},
		{"top, of most", top(), most, 0, api.ErrOver},
		{"low, of most", low(), most, 0, api.ErrOver},
		{"most squared, of most", wide.Mul(most, most), most, most, api.OK},
		{"most by least, of most", wide.Mul(most, least), most, least, api.OK},
		{"least squared, of most", wide.Mul(least, least), most, 0, api.ErrOver},
		{"2^64, of 2", api.Wide{Hi: 1}, 2, 0, api.ErrOver},
		{"2^64, of 4", api.Wide{Hi: 1}, 4, 1 << 62, api.OK},
		{"-2^64, of 2", api.Wide{Hi: -1}, 2, least, api.OK},
	} {
		if n, e := Even(x.w, x.d); n != x.n || e != x.e {
			t.Errorf("Even of %s: %d, %v", x.name, n, e)
		}
	}
}

// P3.1, P3.2: all edges with all divisors, held against whole numbers.
func TestAgainstWholeNumbers(t *testing.T) {
	for _, d := range divisors() {
		for _, w := range wideEdges() {
			quoAgainstWholeNumbers(t, w, d)
		}
		for _, n := range edges() {
			quoAgainstWholeNumbers(t, wide.Of(n), d)
			for _, m := range edges() {
				quoAgainstWholeNumbers(t, wide.Mul(n, m), d)
			}
		}
	}
}

// P3.1, P3.2: drawn numbers, held against whole ones. (The draw is the same each time.)
func TestDrawnAgainstWholeNumbers(t *testing.T) {
	r := rand.New(rand.NewSource(1))
	seen := map[api.Errno]int{}
	for range 50000 {
		w, d := drawn(r), drawnDivisor(r)
		quoAgainstWholeNumbers(t, w, d)
		_, e := Even(w, d)
		seen[e]++
	}
	if seen[api.OK] < 1000 || seen[api.ErrOver] < 1000 {
		t.Error("the draw leaves one answer out", seen)
	}
}

func quoAgainstWholeNumbers(t *testing.T, w api.Wide, d int) {
	t.Helper()
	x := wholeOf(w)
	below, rest := downward(x, d)
	if q, r, e := Quo(w, d); wholeOf(q).Cmp(below) != 0 || whole(r).Cmp(rest) != 0 || e != api.OK {
		t.Errorf("Quo(%v, %d): %v, %d, %v", w, d, q, r, e)
	}
	n, e := Even(w, d)
	if m, f := number(nearest(x, d)); n != m || e != f {
		t.Errorf("Even(%v, %d): %d, %v, not %d, %v", w, d, n, e, m, f)
	}
}

// P3.2: around each middle between two neighbours, by divisors that have one and by those that have none, on either side of 0.
func TestEvenAroundTheMiddle(t *testing.T) {
	for _, d := range divisors() {
		for _, q := range []int{least, least + 1, -5, -4, -3, -2, -1, 0, 1, 2, 3, 4, most - 1, most} {
			for _, r := range []int{0, 1, d/2 - 1, d / 2, d/2 + 1, d - 1} {
				if r < 0 || r >= d {
					continue
				}
				w, e := wide.Add(wide.Mul(q, d), wide.Of(r))
				if e != api.OK {
					t.Fatal(q, d, r, e)
				}
				quoAgainstWholeNumbers(t, w, d)
			}
		}
	}
}

// P3.1 to P3.3: divisors that may not be are told ahead of quotients beyond the range, with nothing beside the error.
func TestDivisorsThatMayNotBe(t *testing.T) {
	for _, d := range []int{0, -1, -2, -7, least + 1, least} {
		for _, w := range wideEdges() {
			if q, r, e := Quo(w, d); q != (api.Wide{}) || r != 0 || e != api.ErrArg {
				t.Errorf("Quo(%v, %d): %v, %d, %v", w, d, q, r, e)
			}
			if n, e := Even(w, d); n != 0 || e != api.ErrArg {
				t.Errorf("Even(%v, %d): %d, %v", w, d, n, e)
			}
		}
		for _, x := range edges() {
			for _, num := range edges() {
				if n, e := Scale(x, num, d); n != 0 || e != api.ErrArg {
					t.Errorf("Scale(%d, %d, %d): %d, %v", x, num, d, n, e)
				}
				if n, e := Floor(x, num, d); n != 0 || e != api.ErrArg {
					t.Errorf("Floor(%d, %d, %d): %d, %v", x, num, d, n, e)
				}
			}
		}
	}
}

// P3.3: what Scale and Floor tell, written out, with the least and the greatest number as each of the three.
func TestScaleAndFloor(t *testing.T) {
	const fine, over, wrong = api.OK, api.ErrOver, api.ErrArg
	for _, x := range []struct {
		x, num, den int
		near        int
		e           api.Errno
		down        int
		f           api.Errno
	}{
		{100, 2, 3, 67, fine, 66, fine},
		{-100, 2, 3, -67, fine, -67, fine},
		{100, -2, 3, -67, fine, -67, fine},
		{-100, -2, 3, 67, fine, 66, fine},
		{100, 1, 3, 33, fine, 33, fine},
		{-100, 1, 3, -33, fine, -34, fine},
		{5, 1, 2, 2, fine, 2, fine},
		{7, 1, 2, 4, fine, 3, fine},
		{-5, 1, 2, -2, fine, -3, fine},
		{-7, 1, 2, -4, fine, -4, fine},
		{0, 5, 7, 0, fine, 0, fine},
		{5, 0, 7, 0, fine, 0, fine},
		{most, most, most, most, fine, most, fine},
		{most, least, most, least, fine, least, fine},
		{least, most, most, least, fine, least, fine},
		{least, least, most, 0, over, 0, over},
		{least, 1, 1, least, fine, least, fine},
		{most, 1, 1, most, fine, most, fine},
		{1, least, 1, least, fine, least, fine},
		{1, most, 1, most, fine, most, fine},
		{least, -1, 1, 0, over, 0, over},
		{-1, least, 1, 0, over, 0, over},
		{least + 1, -1, 1, most, fine, most, fine},
		{most, 2, 1, 0, over, 0, over},
		{least, 2, 1, 0, over, 0, over},
		{least, -1, 2, 1 << 62, fine, 1 << 62, fine},
		{most, most - 1, most, most - 1, fine, most - 1, fine},
		{least, 1, most, -1, fine, -2, fine},
		{1, 1, most, 0, fine, 0, fine},
		{-1, 1, most, 0, fine, -1, fine},
		{1<<62 + 1, 1<<62 - 1, 1 << 61, 0, over, most, fine}, // 2^63 less a part: only downward in range
		{-1<<62 - 1, 1<<62 + 1, 1 << 61, 0, over, 0, over},
		{-6148914691236517206, 3, 2, 0, over, 0, over}, // -2^63 - 1
		{6148914691236517205, 3, 2, 0, over, most, fine},
		{-6148914691236517205, 3, 2, least, fine, least, fine},
		{1, 1, 0, 0, wrong, 0, wrong},
		{1, 1, -2, 0, wrong, 0, wrong},
		{1, 1, least, 0, wrong, 0, wrong},
		{most, 2, 0, 0, wrong, 0, wrong},
		{0, 0, 0, 0, wrong, 0, wrong},
	} {
		if n, e := Scale(x.x, x.num, x.den); n != x.near || e != x.e {
			t.Errorf("Scale(%d, %d, %d): %d, %v", x.x, x.num, x.den, n, e)
		}
		if n, e := Floor(x.x, x.num, x.den); n != x.down || e != x.f {
			t.Errorf("Floor(%d, %d, %d): %d, %v", x.x, x.num, x.den, n, e)
		}
	}
}

// P3.3: all edges with one another, and drawn numbers, held against whole ones. (The draw is the same each time.)
func TestScaleAgainstWholeNumbers(t *testing.T) {
	for _, x := range edges() {
		for _, num := range edges() {
			for _, den := range divisors() {
				scaleAgainstWholeNumbers(t, x, num, den)
			}
		}
	}
	r := rand.New(rand.NewSource(2))
	seen := map[api.Errno]int{}
	for range 50000 {
		x, num, den := drawnInt(r), drawnInt(r), drawnDivisor(r)
		seen[scaleAgainstWholeNumbers(t, x, num, den)]++
	}
	if seen[api.OK] < 1000 || seen[api.ErrOver] < 1000 {
		t.Error("the draw leaves one answer out", seen)
	}
}

func scaleAgainstWholeNumbers(t *testing.T, x, num, den int) api.Errno {
	t.Helper()
	n, e := Scale(x, num, den)
	if m, f := number(nearest(product(x, num), den)); n != m || e != f {
		t.Errorf("Scale(%d, %d, %d): %d, %v, not %d, %v", x, num, den, n, e, m, f)
	}
	below, _ := downward(product(x, num), den)
	n, f := Floor(x, num, den)
	if m, g := number(below); n != m || f != g {
		t.Errorf("Floor(%d, %d, %d): %d, %v, not %d, %v", x, num, den, n, f, m, g)
	}
	return e
}

// P3.4: the quotient times the divisor, and what is left, are the number; what is left is below the divisor.
func TestLeft(t *testing.T) {
	r := rand.New(rand.NewSource(3))
	for i := range 50000 {
		w, d := drawn(r), drawnDivisor(r)
		if i < len(wideEdges()) {
			w = wideEdges()[i]
		}
		q, left, e := Quo(w, d)
		if e != api.OK || left < 0 || left >= d {
			t.Fatalf("Quo(%v, %d): %v, %d, %v", w, d, q, left, e)
		}
		back := new(big.Int).Add(new(big.Int).Mul(wholeOf(q), whole(d)), whole(left))
		if back.Cmp(wholeOf(w)) != 0 {
			t.Fatalf("Quo(%v, %d): %v, %d, which make %v", w, d, q, left, back)
		}
		if n, e := wide.Int(q); e == api.OK { // by the calls of wide, too, where they have room
			if v, e := wide.Add(wide.Mul(n, d), wide.Of(left)); v != w || e != api.OK {
				t.Fatalf("%d times %d, and %d: %v, %v, not %v", n, d, left, v, e, w)
			}
		}
	}
}

// P3.5: what is scaled is off by at most a half, and by just that only if it is even.
func TestNear(t *testing.T) {
	r := rand.New(rand.NewSource(4))
	halves := 0
	for range 50000 {
		x, num, den := drawnInt(r), drawnInt(r), drawnDivisor(r)
		n, e := Scale(x, num, den)
		if e != api.OK {
			continue
		}
		off := new(big.Int).Sub(product(n, den), product(x, num))
		switch off.Abs(off).Lsh(off, 1).Cmp(whole(den)) {
		case 1:
			t.Fatalf("Scale(%d, %d, %d): %d, off by more than a half", x, num, den, n)
		case 0:
			halves++
			if n%2 != 0 {
				t.Fatalf("Scale(%d, %d, %d): %d, off by a half", x, num, den, n)
			}
		}
	}
	if halves < 100 {
		t.Error("the draw leaves halves out", halves)
	}
}

// P3.5: of the opposite comes the opposite, where both may be scaled.
func TestOpposite(t *testing.T) {
	r := rand.New(rand.NewSource(5))
	both := 0
	for range 50000 {
		x, num, den := drawnInt(r), drawnInt(r), drawnDivisor(r)
		if x == least {
			continue
		}
		n, e := Scale(x, num, den)
		m, f := Scale(-x, num, den)
		if e != api.OK || f != api.OK {
			continue
		}
		both++
		if n != -m {
			t.Fatalf("Scale(%d, %d, %d): %d; of the opposite: %d", x, num, den, n, m)
		}
	}
	if both < 1000 {
		t.Error("the draw leaves opposites out", both)
	}
}

// P3.5: of an x that is no less no less comes.
func TestNoLess(t *testing.T) {
	r := rand.New(rand.NewSource(6))
	both := 0
	for range 50000 {
		x, y, num, den := drawnInt(r), drawnInt(r), max(0, drawnInt(r)), drawnDivisor(r)
		if r.Intn(2) == 0 && x < most { // neighbours are those that are most likely to change places
			y = x + 1
		}
		n, e := Scale(min(x, y), num, den)
		m, f := Scale(max(x, y), num, den)
		if e != api.OK || f != api.OK {
			continue
		}
		both++
		if n > m {
			t.Fatalf("Scale of %d and %d, by %d of %d: %d and %d", min(x, y), max(x, y), num, den, n, m)
		}
	}
	if both < 1000 {
		t.Error("the draw leaves numbers in range out", both)
	}
}

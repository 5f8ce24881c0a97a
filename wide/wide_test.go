package wide

import (
	"math"
	"math/big"
	"math/rand"
	"testing"

	"gavelkind/api"
)

const most, least = math.MaxInt, math.MinInt

// top and low are the greatest and the least wide number.
func top() api.Wide { return api.Wide{Hi: math.MaxInt64, Lo: math.MaxUint64} }
func low() api.Wide { return api.Wide{Hi: math.MinInt64} }

// edges stand where a word wraps round, where signs change, and between.
func edges() []int {
	return []int{least, least + 1, least + 2, least / 2, least/2 - 1, -1<<32 - 1, -1 << 32, -7, -2, -1, 0, 1, 2, 7, 1 << 32, 1<<32 + 1, most / 2, most/2 + 1, most - 2, most - 1, most}
}

// wideEdges are the edges, those of the upper word, and where the lower word carries.
func wideEdges() []api.Wide {
	var l []api.Wide
	for _, hi := range []int64{math.MinInt64, math.MinInt64 + 1, -1 << 62, -2, -1, 0, 1, 2, 1 << 62, math.MaxInt64 - 1, math.MaxInt64} {
		for _, lo := range []uint64{0, 1, 2, 1<<63 - 1, 1 << 63, 1<<63 + 1, math.MaxUint64 - 1, math.MaxUint64} {
			l = append(l, api.Wide{Hi: hi, Lo: lo})
		}
	}
	return l
}

func whole(n int) *big.Int { return big.NewInt(int64(n)) }

// wholeOf tells Hi times 2^64, and Lo, as the document says.
func wholeOf(w api.Wide) *big.Int {
	x := new(big.Int).Lsh(big.NewInt(w.Hi), 64)
	return x.Add(x, new(big.Int).SetUint64(w.Lo))
}

// want tells what a call has to answer where the whole number is x.
func want(x *big.Int) (api.Wide, api.Errno) {
	if x.Cmp(wholeOf(top())) > 0 || x.Cmp(wholeOf(low())) < 0 {
		return api.Wide{}, api.ErrOver
	}
	lower := new(big.Int).And(x, new(big.Int).SetUint64(math.MaxUint64))
	return api.Wide{Hi: new(big.Int).Rsh(x, 64).Int64(), Lo: lower.Uint64()}, api.OK
}

// drawnInt and drawn draw edges about half of the time.
func drawnInt(r *rand.Rand) int {
	if r.Intn(2) == 0 {
		return edges()[r.Intn(len(edges()))]
	}
	return int(r.Uint64()) >> r.Intn(64)
}

func drawn(r *rand.Rand) api.Wide {
	if r.Intn(2) == 0 {
		return wideEdges()[r.Intn(len(wideEdges()))]
	}
	return api.Wide{Hi: int64(r.Uint64()) >> r.Intn(64), Lo: r.Uint64() >> r.Intn(64)}
}

// P2.1: what Of tells, written out.
func TestOf(t *testing.T) {
	for _, x := range []struct {
		n int
		w api.Wide
	}{
		{0, api.Wide{}},
		{1, api.Wide{Lo: 1}},
		{42, api.Wide{Lo: 42}},
		{-1, api.Wide{Hi: -1, Lo: math.MaxUint64}},
		{-42, api.Wide{Hi: -1, Lo: math.MaxUint64 - 41}},
		{most, api.Wide{Lo: 1<<63 - 1}},
		{least, api.Wide{Hi: -1, Lo: 1 << 63}},
		{least + 1, api.Wide{Hi: -1, Lo: 1<<63 + 1}},
	} {
		if w := Of(x.n); w != x.w {
			t.Errorf("Of(%d): %v", x.n, w)
		}
	}
}

// P2.1: what Mul tells, written out.
func TestMul(t *testing.T) {
	for _, x := range []struct {
		a, b int
		w    api.Wide
	}{
		{6, 7, api.Wide{Lo: 42}},
		{-6, 7, api.Wide{Hi: -1, Lo: math.MaxUint64 - 41}},
		{6, -7, api.Wide{Hi: -1, Lo: math.MaxUint64 - 41}},
		{-6, -7, api.Wide{Lo: 42}},
		{0, 0, api.Wide{}},
		{0, least, api.Wide{}},
		{-1, 0, api.Wide{}},
		{1 << 62, 4, api.Wide{Hi: 1}},
		{1 << 62, -4, api.Wide{Hi: -1}},
		{1 << 32, 1 << 32, api.Wide{Hi: 1}},
		{least, least, api.Wide{Hi: 1 << 62}},
		{least, -1, api.Wide{Lo: 1 << 63}},
		{least, 1, api.Wide{Hi: -1, Lo: 1 << 63}},
		{least, most, api.Wide{Hi: -1 << 62, Lo: 1 << 63}},
		{most, most, api.Wide{Hi: 1<<62 - 1, Lo: 1}},
		{most, -1, api.Wide{Hi: -1, Lo: 1<<63 + 1}},
		{most, 2, api.Wide{Lo: math.MaxUint64 - 1}},
	} {
		if w := Mul(x.a, x.b); w != x.w {
			t.Errorf("Mul(%d, %d): %v", x.a, x.b, w)
		}
	}
}

// P2.1: all edges with one another, held against whole numbers.
func TestOfAndMulAgainstWholeNumbers(t *testing.T) {
	for _, a := range edges() {
		if x := wholeOf(Of(a)); x.Cmp(whole(a)) != 0 {
			t.Errorf("Of(%d): %v", a, x)
		}
		for _, b := range edges() {
			w, _ := want(new(big.Int).Mul(whole(a), whole(b)))
			if v := Mul(a, b); v != w {
				t.Errorf("Mul(%d, %d): %v, not %v", a, b, v, w)
			}
		}
	}
}

// P2.2: sums and differences just in range, and just beyond it on either side, written out.
func TestEndsOfWideRange(t *testing.T) {
	nearTop, nearLow := api.Wide{Hi: math.MaxInt64, Lo: math.MaxUint64 - 1}, api.Wide{Hi: math.MinInt64, Lo: 1}
	none := api.Wide{}
	for _, x := range []struct {
		name string
		call func() (api.Wide, api.Errno)
		w    api.Wide
		e    api.Errno
	}{
		{"20 + 22", func() (api.Wide, api.Errno) { return Add(Of(20), Of(22)) }, Of(42), api.OK},
		{"20 - 22", func() (api.Wide, api.Errno) { return Sub(Of(20), Of(22)) }, Of(-2), api.OK},
		{"top + 1", func() (api.Wide, api.Errno) { return Add(top(), Of(1)) }, none, api.ErrOver},
		{"top-1 + 1", func() (api.Wide, api.Errno) { return Add(nearTop, Of(1)) }, top(), api.OK},
		{"top + 0", func() (api.Wide, api.Errno) { return Add(top(), none) }, top(), api.OK},
		{"top + -1", func() (api.Wide, api.Errno) { return Add(top(), Of(-1)) }, nearTop, api.OK},
		{"top + top", func() (api.Wide, api.Errno) { return Add(top(), top()) }, none, api.ErrOver},
		{"low + -1", func() (api.Wide, api.Errno) { return Add(low(), Of(-1)) }, none, api.ErrOver},
		{"low+1 + -1", func() (api.Wide, api.Errno) { return Add(nearLow, Of(-1)) }, low(), api.OK},
		{"low + 0", func() (api.Wide, api.Errno) { return Add(low(), none) }, low(), api.OK},
		{"low + low", func() (api.Wide, api.Errno) { return Add(low(), low()) }, none, api.ErrOver},
		{"low + top", func() (api.Wide, api.Errno) { return Add(low(), top()) }, Of(-1), api.OK},
		{"carry", func() (api.Wide, api.Errno) { return Add(api.Wide{Lo: math.MaxUint64}, Of(1)) }, api.Wide{Hi: 1}, api.OK},
		{"half + half", func() (api.Wide, api.Errno) { return Add(api.Wide{Hi: 1 << 62}, api.Wide{Hi: 1 << 62}) }, none, api.ErrOver},
		{"-half + -half", func() (api.Wide, api.Errno) { return Add(api.Wide{Hi: -1 << 62}, api.Wide{Hi: -1 << 62}) }, low(), api.OK},
		{"low - 1", func() (api.Wide, api.Errno) { return Sub(low(), Of(1)) }, none, api.ErrOver},
		{"low+1 - 1", func() (api.Wide, api.Errno) { return Sub(nearLow, Of(1)) }, low(), api.OK},
		{"top - -1", func() (api.Wide, api.Errno) { return Sub(top(), Of(-1)) }, none, api.ErrOver},
		{"top-1 - -1", func() (api.Wide, api.Errno) { return Sub(nearTop, Of(-1)) }, top(), api.OK},
		{"top - top", func() (api.Wide, api.Errno) { return Sub(top(), top()) }, none, api.OK},
		{"low - low", func() (api.Wide, api.Errno) { return Sub(low(), low()) }, none, api.OK},
		{"top - low", func() (api.Wide, api.Errno) { return Sub(top(), low()) }, none, api.ErrOver},
		{"low - top", func() (api.Wide, api.Errno) { return Sub(low(), top()) }, none, api.ErrOver},
		{"-1 - low", func() (api.Wide, api.Errno) { return Sub(Of(-1), low()) }, top(), api.OK},
		{"0 - low", func() (api.Wide, api.Errno) { return Sub(none, low()) }, none, api.ErrOver},
		{"borrow", func() (api.Wide, api.Errno) { return Sub(api.Wide{Hi: 1}, Of(1)) }, api.Wide{Lo: math.MaxUint64}, api.OK},
		{"neg low", func() (api.Wide, api.Errno) { return Neg(low()) }, none, api.ErrOver},
		{"neg low+1", func() (api.Wide, api.Errno) { return Neg(nearLow) }, top(), api.OK},
		{"neg top", func() (api.Wide, api.Errno) { return Neg(top()) }, nearLow, api.OK},
		{"neg 0", func() (api.Wide, api.Errno) { return Neg(none) }, none, api.OK},
		{"neg 5", func() (api.Wide, api.Errno) { return Neg(Of(5)) }, Of(-5), api.OK},
		{"neg least", func() (api.Wide, api.Errno) { return Neg(Of(least)) }, api.Wide{Lo: 1 << 63}, api.OK},
	} {
		if w, e := x.call(); w != x.w || e != x.e {
			t.Errorf("%s: %v, %v", x.name, w, e)
		}
	}
}

// P2.2, P2.3: all edges with one another, held against whole numbers.
func TestAgainstWholeNumbers(t *testing.T) {
	for _, v := range wideEdges() {
		x := wholeOf(v)
		got, e := Neg(v)
		if w, f := want(new(big.Int).Neg(x)); got != w || e != f {
			t.Errorf("Neg(%v): %v, %v", v, got, e)
		}
		if n := Sign(v); n != x.Sign() {
			t.Errorf("Sign(%v): %d", v, n)
		}
		for _, w := range wideEdges() {
			pairAgainstWholeNumbers(t, v, w)
		}
	}
}

// P2.2, P2.3: drawn pairs, held against whole numbers. (The draw is the same each time.)
func TestDrawnAgainstWholeNumbers(t *testing.T) {
	r := rand.New(rand.NewSource(1))
	seen := map[api.Errno]int{}
	for range 50000 {
		v, w := drawn(r), drawn(r)
		pairAgainstWholeNumbers(t, v, w)
		_, e := Add(v, w)
		seen[e]++
	}
	if seen[api.OK] < 1000 || seen[api.ErrOver] < 1000 {
		t.Error("the draw leaves one answer out", seen)
	}
}

func pairAgainstWholeNumbers(t *testing.T, v, w api.Wide) {
	t.Helper()
	x, y := wholeOf(v), wholeOf(w)
	got, e := Add(v, w)
	if u, f := want(new(big.Int).Add(x, y)); got != u || e != f {
		t.Errorf("Add(%v, %v): %v, %v", v, w, got, e)
	}
	got, e = Sub(v, w)
	if u, f := want(new(big.Int).Sub(x, y)); got != u || e != f {
		t.Errorf("Sub(%v, %v): %v, %v", v, w, got, e)
	}
	if n := Cmp(v, w); n != x.Cmp(y) {
		t.Errorf("Cmp(%v, %v): %d", v, w, n)
	}
}

// P2.3: Cmp and Sign, written out.
func TestCmpAndSign(t *testing.T) {
	for _, x := range []struct {
		v, w api.Wide
		n    int
	}{
		{Of(2), Of(3), -1},
		{Of(3), Of(3), 0},
		{Of(-2), Of(-3), 1},
		{Of(-1), Of(0), -1},
		{low(), top(), -1},
		{top(), low(), 1},
		{low(), low(), 0},
		{top(), top(), 0},
		{api.Wide{Lo: 1 << 63}, Of(5), 1}, // the lower word has no sign
		{api.Wide{Hi: -1, Lo: 1 << 63}, Of(-1), -1},
		{api.Wide{Hi: 1}, api.Wide{Lo: math.MaxUint64}, 1},
		{api.Wide{Hi: 1}, api.Wide{Hi: -1, Lo: math.MaxUint64}, 1},
	} {
		if n := Cmp(x.v, x.w); n != x.n {
			t.Errorf("Cmp(%v, %v): %d", x.v, x.w, n)
		}
	}
	for _, x := range []struct {
		w api.Wide
		n int
	}{
		{api.Wide{}, 0},
		{Of(9), 1},
		{Of(-9), -1},
		{low(), -1},
		{top(), 1},
		{api.Wide{Hi: 1}, 1},
		{api.Wide{Hi: -1}, -1},
		{api.Wide{Lo: 1 << 63}, 1},
		{api.Wide{Lo: math.MaxUint64}, 1},
	} {
		if n := Sign(x.w); n != x.n {
			t.Errorf("Sign(%v): %d", x.w, n)
		}
	}
}

// P2.3: Int at both ends of the range, and one beyond each of them.
func TestInt(t *testing.T) {
	for _, x := range []struct {
		w api.Wide
		n int
		e api.Errno
	}{
		{api.Wide{}, 0, api.OK},
		{api.Wide{Lo: 42}, 42, api.OK},
		{api.Wide{Hi: -1, Lo: math.MaxUint64 - 41}, -42, api.OK},
		{api.Wide{Lo: 1<<63 - 1}, most, api.OK},
		{api.Wide{Lo: 1 << 63}, 0, api.ErrOver},
		{api.Wide{Lo: math.MaxUint64}, 0, api.ErrOver},
		{api.Wide{Hi: -1, Lo: 1 << 63}, least, api.OK},
		{api.Wide{Hi: -1, Lo: 1<<63 - 1}, 0, api.ErrOver},
		{api.Wide{Hi: -1}, 0, api.ErrOver},
		{api.Wide{Hi: 1}, 0, api.ErrOver},
		{api.Wide{Hi: 1, Lo: 7}, 0, api.ErrOver},
		{api.Wide{Hi: -2, Lo: math.MaxUint64}, 0, api.ErrOver},
		{top(), 0, api.ErrOver},
		{low(), 0, api.ErrOver},
	} {
		if n, e := Int(x.w); n != x.n || e != x.e {
			t.Errorf("Int(%v): %d, %v", x.w, n, e)
		}
	}
	for _, w := range wideEdges() {
		n, e := Int(w)
		if x := wholeOf(w); (e == api.OK) != x.IsInt64() || e == api.OK && whole(n).Cmp(x) != 0 || e != api.OK && (n != 0 || e != api.ErrOver) {
			t.Errorf("Int(%v): %d, %v", w, n, e)
		}
	}
}

// P2.4: a number comes back as it was; what was added can be taken off again.
func TestBack(t *testing.T) {
	for _, n := range edges() {
		if m, e := Int(Of(n)); m != n || e != api.OK {
			t.Errorf("Int(Of(%d)): %d, %v", n, m, e)
		}
	}
	for _, v := range wideEdges() {
		for _, w := range wideEdges() {
			u, e := Add(v, w)
			if e != api.OK {
				continue
			}
			if back, e := Sub(u, w); back != v || e != api.OK {
				t.Errorf("Sub(%v, %v): %v, %v, added to %v", u, w, back, e, v)
			}
		}
	}
}

// P2.5: products in either order, their signs, and those of sums.
func TestProducts(t *testing.T) {
	r := rand.New(rand.NewSource(2))
	sums := 0
	for range 50000 {
		a, b, c := drawnInt(r), drawnInt(r), drawnInt(r)
		ab := Mul(a, b)
		if ba := Mul(b, a); ab != ba {
			t.Fatalf("Mul(%d, %d): %v; turned round: %v", a, b, ab, ba)
		}
		if n := Sign(ab); n != Sign(Of(a))*Sign(Of(b)) {
			t.Fatalf("Sign of Mul(%d, %d): %d", a, b, n)
		}
		if (c > 0 && b > most-c) || (c < 0 && b < least-c) {
			continue
		}
		sums++
		both, e := Add(ab, Mul(a, c))
		if e != api.OK || Mul(a, b+c) != both {
			t.Fatalf("%d times %d + %d: %v, by parts %v, %v", a, b, c, Mul(a, b+c), both, e)
		}
	}
	if sums < 1000 {
		t.Error("the draw leaves sums in range out", sums)
	}
}

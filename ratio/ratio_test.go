package ratio

import (
	"math"
	"math/big"
	"math/rand"
	"testing"

	"gavelkind/api"
	"gavelkind/scale"
)

const most, least, top = math.MaxInt, math.MinInt, api.MaxRatio

func of(num, den int) api.Ratio { return api.Ratio{Num: num, Den: den} }

// terms are numbers that a rate may have: the least and the greatest, some that share divisors, primes, and powers of 2, whose products wrap round to 0 in one word.
func terms() []int {
	return []int{1, 2, 3, 4, 6, 7, 12, 10000, 10001, 1000000, 1000003, 1 << 20, 1 << 32, 1 << 39, 99990001, 999999999989, top / 3, top / 2, top/2 + 1, top - 2, top - 1, top}
}

// wrongTerms are numbers that no rate may have.
func wrongTerms() []int {
	return []int{0, -1, -2, -top, -top - 1, least, least + 1, top + 1, top + 2, 2 * top, 1 << 62, most - 1, most}
}

// rates are all that the terms make.
func rates() []api.Ratio {
	var l []api.Ratio
	for _, num := range terms() {
		for _, den := range terms() {
			l = append(l, of(num, den))
		}
	}
	return l
}

// wrongRates are rates with one number, or both, that may not be.
func wrongRates() []api.Ratio {
	l := []api.Ratio{{}}
	for _, n := range wrongTerms() {
		l = append(l, of(n, 1), of(1, n), of(n, top), of(top, n), of(6, n), of(n, n))
	}
	return l
}

// numbers are those that Apply is asked for: the ends of the range, halves, and between.
func numbers() []int {
	return []int{least, least + 1, least/2 - 1, least / 2, -top - 1, -7, -5, -3, -2, -1, 0, 1, 2, 3, 5, 7, top + 1, most / 2, most/2 + 1, most - 1, most}
}

func drawnTerm(r *rand.Rand) int {
	switch r.Intn(3) {
	case 0:
		return terms()[r.Intn(len(terms()))]
	case 1:
		return 1 + r.Intn(30)
	}
	return 1 + r.Intn(top)>>r.Intn(40)
}

func drawn(r *rand.Rand) api.Ratio { return of(drawnTerm(r), drawnTerm(r)) }

func drawnNumber(r *rand.Rand) int {
	if r.Intn(3) == 0 {
		return numbers()[r.Intn(len(numbers()))]
	}
	return int(r.Uint64()) >> r.Intn(64)
}

func whole(n int) *big.Int { return big.NewInt(int64(n)) }

// exact tells the number that a rate is, in its lowest terms, as big finds them.
func exact(r api.Ratio) *big.Rat { return big.NewRat(int64(r.Num), int64(r.Den)) }

// want tells what a call has to answer where the number is x.
func want(x *big.Rat) (api.Ratio, api.Errno) {
	if x.Num().Cmp(whole(top)) > 0 || x.Denom().Cmp(whole(top)) > 0 {
		return api.Ratio{}, api.ErrOver
	}
	return of(int(x.Num().Int64()), int(x.Denom().Int64())), api.OK
}

// nearest is told by the distances of both neighbours, each worked out by itself.
func nearest(x *big.Rat) *big.Int {
	below := new(big.Int).Div(x.Num(), x.Denom()) // the lower part is above 0, where Div goes downward
	above := new(big.Int).Add(below, whole(1))
	off := func(n *big.Int) *big.Rat {
		gap := new(big.Rat).Sub(new(big.Rat).SetInt(n), x)
		return gap.Abs(gap)
	}
	switch off(below).Cmp(off(above)) {
	case -1:
		return below
	case 1:
		return above
	}
	if below.Bit(0) == 0 {
		return below
	}
	return above
}

// P4.1: what Check and Norm tell, written out.
func TestCheckAndNorm(t *testing.T) {
	for _, x := range []struct {
		r, norm api.Ratio
		e       api.Errno
	}{
		{of(6, 4), of(3, 2), api.OK},
		{of(4, 6), of(2, 3), api.OK},
		{of(1, 1), of(1, 1), api.OK},
		{of(7, 13), of(7, 13), api.OK},
		{of(12, 4), of(3, 1), api.OK},
		{of(4, 12), of(1, 3), api.OK},
		{of(96, 360), of(4, 15), api.OK},
		{of(top, 1), of(top, 1), api.OK},
		{of(1, top), of(1, top), api.OK},
		{of(top, top), of(1, 1), api.OK},
		{of(top, 2), of(top/2, 1), api.OK},
		{of(top-1, top), of(top-1, top), api.OK},
		{of(top-2, top), of(top/2-1, top/2), api.OK},
		{of(top-1, 3), of((top-1)/3, 1), api.OK},
		{of(1<<39, 1<<20), of(1<<19, 1), api.OK},
		{of(999999999989, top), of(999999999989, top), api.OK},
		{of(top+1, 1), api.Ratio{}, api.ErrRatio},
		{of(1, top+1), api.Ratio{}, api.ErrRatio},
		{of(top+1, top+1), api.Ratio{}, api.ErrRatio},
		{of(top+2, 2), api.Ratio{}, api.ErrRatio}, // its lowest terms would be low enough
		{of(0, 1), api.Ratio{}, api.ErrRatio},
		{of(1, 0), api.Ratio{}, api.ErrRatio},
		{of(0, 0), api.Ratio{}, api.ErrRatio},
		{of(-1, 1), api.Ratio{}, api.ErrRatio},
		{of(1, -1), api.Ratio{}, api.ErrRatio},
		{of(-6, -4), api.Ratio{}, api.ErrRatio},
		{of(most, 1), api.Ratio{}, api.ErrRatio},
		{of(1, most), api.Ratio{}, api.ErrRatio},
		{of(least, 1), api.Ratio{}, api.ErrRatio},
		{of(1, least), api.Ratio{}, api.ErrRatio},
		{of(least, least), api.Ratio{}, api.ErrRatio},
	} {
		if n, e := Norm(x.r), Check(x.r); n != x.norm || e != x.e {
			t.Errorf("of %v: Norm %v, Check %v", x.r, n, e)
		}
	}
}

// P4.1 to P4.4: with a number that may not be, all calls tell so, and nothing beside it; Times and Apply ahead of what would be beyond the range.
func TestRatesThatMayNotBe(t *testing.T) {
	for _, r := range wrongRates() {
		if n, e := Norm(r), Check(r); n != (api.Ratio{}) || e != api.ErrRatio {
			t.Errorf("of %v: Norm %v, Check %v", r, n, e)
		}
		if n, e := Inverse(r); n != (api.Ratio{}) || e != api.ErrRatio {
			t.Errorf("Inverse(%v): %v, %v", r, n, e)
		}
		for _, x := range numbers() {
			if n, e := Apply(x, r); n != 0 || e != api.ErrRatio {
				t.Errorf("Apply(%d, %v): %d, %v", x, r, n, e)
			}
		}
		for _, other := range append(rates(), wrongRates()...) {
			neither(t, r, other)
			neither(t, other, r)
		}
	}
}

// neither holds two rates, of which at least one may not be, against each other.
func neither(t *testing.T, a, b api.Ratio) {
	t.Helper()
	if Same(a, b) || Less(a, b) {
		t.Fatalf("of %v and %v: Same %v, Less %v", a, b, Same(a, b), Less(a, b))
	}
	if r, e := Times(a, b); r != (api.Ratio{}) || e != api.ErrRatio {
		t.Fatalf("Times(%v, %v): %v, %v", a, b, r, e)
	}
}

// P4.2: what Same and Less tell, written out: rates in other terms, and neighbours whose products are the same but for 1, or the same in one word.
func TestSameAndLess(t *testing.T) {
	for _, x := range []struct {
		name       string
		a, b       api.Ratio
		same, less bool
	}{
		{"other terms", of(2, 4), of(3, 6), true, false},
		{"lowest terms", of(2, 4), of(1, 2), true, false},
		{"the greatest terms", of(top, top), of(1, 1), true, false},
		{"the greatest terms of a half", of(top/2, top), of(1, 2), true, false},
		{"the same terms", of(7, 13), of(7, 13), true, false},
		{"one Num", of(1, 3), of(1, 2), false, true},
		{"one Den", of(1, 3), of(2, 3), false, true},
		{"changed about", of(3, 2), of(2, 3), false, false},
		{"a greater Num, and less", of(5, 7), of(3, 4), false, true},
		{"the least and the next one", of(1, top), of(1, top-1), false, true},
		{"the least and the greatest", of(1, top), of(top, 1), false, true},
		{"just below 1", of(top-1, top), of(1, 1), false, true},
		{"just above 1", of(1, 1), of(top, top-1), false, true},
		{"as near as two can be, below 1", of(top-2, top-1), of(top-1, top), false, true},
		{"as near as two can be, above 1", of(top, top-1), of(top-1, top-2), false, true},
		{"as near as two can be, about a half", of(top/2-1, top-1), of(top/2, top), false, true},
		{"2^78 and 1, the first of which is 0 in one word", of(1, 1<<39), of(1<<39, 1), false, true},
		{"2^64 and 2^65, both 0 in one word", of(1<<32, 1), of(1<<33, 1), false, true},
	} {
		if Same(x.a, x.b) != x.same || Same(x.b, x.a) != x.same {
			t.Errorf("%s: Same %v, turned round %v", x.name, Same(x.a, x.b), Same(x.b, x.a))
		}
		if Less(x.a, x.b) != x.less {
			t.Errorf("%s: Less %v", x.name, Less(x.a, x.b))
		}
		if Less(x.b, x.a) != (!x.same && !x.less) {
			t.Errorf("%s: Less, turned round %v", x.name, Less(x.b, x.a))
		}
	}
}

// P4.3: what Inverse tells, written out.
func TestInverse(t *testing.T) {
	for _, x := range []struct{ r, inverse api.Ratio }{
		{of(4, 6), of(3, 2)},
		{of(3, 2), of(2, 3)},
		{of(1, 1), of(1, 1)},
		{of(top, 1), of(1, top)},
		{of(1, top), of(top, 1)},
		{of(top, top), of(1, 1)},
		{of(top-1, top), of(top, top-1)},
		{of(2, top), of(top/2, 1)},
	} {
		if r, e := Inverse(x.r); r != x.inverse || e != api.OK {
			t.Errorf("Inverse(%v): %v, %v", x.r, r, e)
		}
	}
}

// P4.3: what Times tells, written out: with numbers of just 10^12, and above it, ahead of lowest terms and in them.
func TestTimes(t *testing.T) {
	for _, x := range []struct {
		name       string
		a, b, want api.Ratio
		e          api.Errno
	}{
		{"divided crosswise", of(2, 3), of(3, 4), of(1, 2), api.OK},
		{"nothing to divide", of(2, 3), of(5, 7), of(10, 21), api.OK},
		{"each in other terms", of(4, 6), of(9, 12), of(1, 2), api.OK},
		{"squared", of(3, 2), of(3, 2), of(9, 4), api.OK},
		{"1 of 1", of(1, 1), of(1, 1), of(1, 1), api.OK},
		{"1 in the greatest terms", of(top, top), of(top, top), of(1, 1), api.OK},
		{"the greatest by the least", of(top, 1), of(1, top), of(1, 1), api.OK},
		{"both products far above, and divided to 1", of(top, top-1), of(top-1, top), of(1, 1), api.OK},
		{"both products far above, and divided to what may be", of(top, top-1), of((top-1)/3, top/8), of(8, 3), api.OK},
		{"just 10^12", of(1000000, 1), of(1000000, 1), of(top, 1), api.OK},
		{"just 10^12 below", of(1, 1000000), of(1, 1000000), of(1, top), api.OK},
		{"10^12, and divided", of(1000000, 2), of(1000000, 1), of(top/2, 1), api.OK},
		{"2 times 10^12, and divided to just 10^12", of(2000000, 3), of(1000000, 2), of(top, 3), api.OK},
		{"3 times 10^12, and divided crosswise to just 10^12", of(top, 3), of(3, 1), of(top, 1), api.OK},
		{"3 times 10^12 below, and divided crosswise", of(3, top), of(1, 3), of(1, top), api.OK},
		{"just above 10^12", of(10001, 1), of(99990001, 1), api.Ratio{}, api.ErrOver}, // 10^12 + 1
		{"just above 10^12 below", of(1, 10001), of(1, 99990001), api.Ratio{}, api.ErrOver},
		{"3 times as much, and divided to just above 10^12", of(30003, 7), of(99990001, 3), api.Ratio{}, api.ErrOver},
		{"3 times as much below, and divided to just above 10^12", of(7, 30003), of(3, 99990001), api.Ratio{}, api.ErrOver},
		{"just above 10^12, and divided", of(10001, 73), of(99990001, 1), of(137*99990001, 1), api.OK},
		{"twice 10^12, with nothing to divide", of(top, 3), of(2, 1), api.Ratio{}, api.ErrOver},
		{"twice 10^12 below", of(1, top), of(1, 2), api.Ratio{}, api.ErrOver},
		{"3 halves of 10^12", of(top, 1), of(3, 2), api.Ratio{}, api.ErrOver},
		{"10^12 of 3 by 3 halves", of(top, 3), of(3, 2), of(top/2, 1), api.OK},
		{"10^24", of(top, 1), of(top, 1), api.Ratio{}, api.ErrOver},
		{"1 of 10^24", of(1, top), of(1, top), api.Ratio{}, api.ErrOver},
		{"only the upper number above", of(top, 1), of(top-1, 7), api.Ratio{}, api.ErrOver},
		{"only the lower number above", of(7, top), of(1, top-1), api.Ratio{}, api.ErrOver},
		{"2^64, which is 0 in one word", of(1<<32, 1), of(1<<32, 1), api.Ratio{}, api.ErrOver},
		{"2^64 below", of(1, 1<<32), of(1, 1<<32), api.Ratio{}, api.ErrOver},
		{"2^63, which is below 0 in one word", of(1<<32, 1), of(1<<31, 1), api.Ratio{}, api.ErrOver},
		{"2^64 and 2, which is 2 in one word", of(26563938, 1), of(694428065361, 1), api.Ratio{}, api.ErrOver},
		{"2^64 and 2 below", of(1, 26563938), of(1, 694428065361), api.Ratio{}, api.ErrOver},
	} {
		if r, e := Times(x.a, x.b); r != x.want || e != x.e {
			t.Errorf("%s: Times(%v, %v): %v, %v", x.name, x.a, x.b, r, e)
		}
		if r, e := Times(x.b, x.a); r != x.want || e != x.e {
			t.Errorf("%s: Times(%v, %v): %v, %v", x.name, x.b, x.a, r, e)
		}
	}
}

// P4.1 to P4.3: all rates of the edges with one another, and drawn ones, held against whole numbers. (The draw is the same each time.)
func TestAgainstWholeNumbers(t *testing.T) {
	for _, a := range rates() {
		for _, b := range rates() {
			againstWholeNumbers(t, a, b)
		}
	}
	r := rand.New(rand.NewSource(1))
	seen := map[api.Errno]int{}
	for range 50000 {
		seen[againstWholeNumbers(t, drawn(r), drawn(r))]++
	}
	if seen[api.OK] < 1000 || seen[api.ErrOver] < 1000 {
		t.Error("the draw leaves one answer out", seen)
	}
}

func againstWholeNumbers(t *testing.T, a, b api.Ratio) api.Errno {
	t.Helper()
	x, y := exact(a), exact(b)
	norm, _ := want(x)
	if n, e := Norm(a), Check(a); n != norm || e != api.OK {
		t.Fatalf("of %v: Norm %v, Check %v", a, n, e)
	}
	inverse, _ := want(new(big.Rat).Inv(x))
	if n, e := Inverse(a); n != inverse || e != api.OK {
		t.Fatalf("Inverse(%v): %v, %v", a, n, e)
	}
	if Same(a, b) != (x.Cmp(y) == 0) || Less(a, b) != (x.Cmp(y) < 0) {
		t.Fatalf("of %v and %v: Same %v, Less %v", a, b, Same(a, b), Less(a, b))
	}
	product, f := want(new(big.Rat).Mul(x, y))
	if n, e := Times(a, b); n != product || e != f {
		t.Fatalf("Times(%v, %v): %v, %v, not %v, %v", a, b, n, e, product, f)
	}
	return f
}

// P4.4: what Apply tells, written out: the nearest one, of two the even one, just in range and just beyond it.
func TestApply(t *testing.T) {
	for _, x := range []struct {
		x int
		r api.Ratio
		n int
		e api.Errno
	}{
		{5, of(1, 2), 2, api.OK},
		{7, of(1, 2), 4, api.OK},
		{-5, of(1, 2), -2, api.OK},
		{-7, of(1, 2), -4, api.OK},
		{7, of(5, 10), 4, api.OK},
		{100, of(2, 3), 67, api.OK},
		{-100, of(2, 3), -67, api.OK},
		{0, of(top, 1), 0, api.OK},
		{1, of(top, 1), top, api.OK},
		{1, of(1, top), 0, api.OK},
		{top, of(1, top), 1, api.OK},
		{top / 2, of(1, top), 0, api.OK}, // just a half
		{top/2 + 1, of(1, top), 1, api.OK},
		{most, of(1, 1), most, api.OK},
		{least, of(1, 1), least, api.OK},
		{most, of(top, top), most, api.OK},
		{least, of(top, top), least, api.OK},
		{most, of(top-1, top), 9223372036845552435, api.OK},
		{least, of(top-1, top), -9223372036845552436, api.OK},
		{most, of(top, top-1), 0, api.ErrOver},
		{least, of(top, top-1), 0, api.ErrOver},
		{most, of(1, 2), 1 << 62, api.OK},
		{least, of(1, 2), -1 << 62, api.OK},
		{most, of(1, top), 9223372, api.OK},
		{least, of(1, top), -9223372, api.OK},
		{most, of(2, 1), 0, api.ErrOver},
		{least, of(2, 1), 0, api.ErrOver},
		{most, of(top, 1), 0, api.ErrOver},
		{least, of(top, 1), 0, api.ErrOver},
		{most / 2, of(2, 1), most - 1, api.OK},
		{most/2 + 1, of(2, 1), 0, api.ErrOver}, // 2^63
		{least / 2, of(2, 1), least, api.OK},
		{least/2 - 1, of(2, 1), 0, api.ErrOver},
		{6148914691236517204, of(3, 2), most - 1, api.OK},
		{6148914691236517205, of(3, 2), 0, api.ErrOver}, // 2^63 less a half: up to the even one
		{6148914691236517205, of(6, 4), 0, api.ErrOver},
		{-6148914691236517205, of(3, 2), least, api.OK},
		{-6148914691236517206, of(3, 2), 0, api.ErrOver},
		{9223372, of(top, 1), 9223372 * top, api.OK},
		{9223373, of(top, 1), 0, api.ErrOver},
		{-9223373, of(top, 1), 0, api.ErrOver},
	} {
		if n, e := Apply(x.x, x.r); n != x.n || e != x.e {
			t.Errorf("Apply(%d, %v): %d, %v", x.x, x.r, n, e)
		}
	}
}

// P4.4: numbers and rates of the edges, and drawn ones, held against whole numbers and against what scale tells. (The draw is the same each time.)
func TestApplyAgainstWholeNumbers(t *testing.T) {
	for _, x := range numbers() {
		for _, q := range rates() {
			applyAgainstWholeNumbers(t, x, q)
		}
	}
	r := rand.New(rand.NewSource(2))
	seen := map[api.Errno]int{}
	for range 30000 {
		seen[applyAgainstWholeNumbers(t, drawnNumber(r), drawn(r))]++
	}
	if seen[api.OK] < 1000 || seen[api.ErrOver] < 1000 {
		t.Error("the draw leaves one answer out", seen)
	}
}

func applyAgainstWholeNumbers(t *testing.T, x int, q api.Ratio) api.Errno {
	t.Helper()
	near := nearest(new(big.Rat).Mul(new(big.Rat).SetInt64(int64(x)), exact(q)))
	m, f := int(near.Int64()), api.OK
	if !near.IsInt64() {
		m, f = 0, api.ErrOver
	}
	n, e := Apply(x, q)
	if n != m || e != f {
		t.Fatalf("Apply(%d, %v): %d, %v, not %d, %v", x, q, n, e, m, f)
	}
	if m, f := scale.Scale(x, q.Num, q.Den); n != m || e != f {
		t.Fatalf("Apply(%d, %v): %d, %v; by scale %d, %v", x, q, n, e, m, f)
	}
	return e
}

// P4.5: of two rates just one of Less, Less the other way round, and Same holds; the inverses stand the other way round.
func TestOrders(t *testing.T) {
	count := func(l ...bool) (n int) {
		for _, holds := range l {
			if holds {
				n++
			}
		}
		return n
	}
	for _, a := range rates() {
		for _, b := range rates() {
			if n := count(Less(a, b), Less(b, a), Same(a, b)); n != 1 || Same(a, b) != Same(b, a) {
				t.Fatalf("of %v and %v: %d hold", a, b, n)
			}
			c, _ := Inverse(a)
			d, _ := Inverse(b)
			if Less(a, b) != Less(d, c) || Same(a, b) != Same(c, d) {
				t.Fatalf("of %v and %v, and of the inverses: Less %v, %v; Same %v, %v", a, b, Less(a, b), Less(d, c), Same(a, b), Same(c, d))
			}
		}
	}
}

// P4.5: Less goes on over a third one; two that are the same stand alike to it.
func TestLessGoesOn(t *testing.T) {
	r := rand.New(rand.NewSource(3))
	on, alike := 0, 0
	for i := range 100000 {
		a, b, c := drawn(r), drawn(r), drawn(r)
		if i%2 == 0 { // neighbours, and other terms of one number, are seldom drawn
			b = of(min(top, a.Num+r.Intn(2)), min(top, a.Den+r.Intn(2)))
			c = Norm(of(min(top, b.Num+r.Intn(2)), min(top, b.Den+r.Intn(2))))
		}
		if Less(a, b) && Less(b, c) {
			on++
			if !Less(a, c) {
				t.Fatalf("%v is Less than %v, this than %v, and the first not than the last", a, b, c)
			}
		}
		if Same(a, b) {
			alike++
			if Less(a, c) != Less(b, c) || Less(c, a) != Less(c, b) || Same(a, c) != Same(b, c) {
				t.Fatalf("%v and %v are the Same, but not to %v", a, b, c)
			}
		}
	}
	if on < 1000 || alike < 1000 {
		t.Error("the draw leaves orders out", on, alike)
	}
}

// P4.6: Norm is the Same and its own Norm; an inverse's inverse is the Norm; a rate times its inverse is 1 of 1.
func TestBack(t *testing.T) {
	r := rand.New(rand.NewSource(4))
	for i := range 20000 {
		q := drawn(r)
		if i < len(rates()) {
			q = rates()[i]
		}
		n := Norm(q)
		if !Same(n, q) || Norm(n) != n {
			t.Fatalf("Norm(%v): %v, and of this %v", q, n, Norm(n))
		}
		inverse, e := Inverse(q)
		if e != api.OK {
			t.Fatalf("Inverse(%v): %v", q, e)
		}
		if back, e := Inverse(inverse); back != n || e != api.OK {
			t.Fatalf("Inverse(%v): %v, %v, not %v", inverse, back, e, n)
		}
		if one, e := Times(q, inverse); one != of(1, 1) || e != api.OK {
			t.Fatalf("Times(%v, %v): %v, %v", q, inverse, one, e)
		}
		if same, e := Times(q, of(1, 1)); same != n || e != api.OK {
			t.Fatalf("%v by 1 of 1: %v, %v", q, same, e)
		}
	}
}

// P4.6: Times does not hang on the order, nor on the terms.
func TestTimesOfAnyOrder(t *testing.T) {
	r := rand.New(rand.NewSource(5))
	for range 50000 {
		a, b := drawn(r), drawn(r)
		n, e := Times(a, b)
		if m, f := Times(b, a); n != m || e != f {
			t.Fatalf("Times(%v, %v): %v, %v; turned round %v, %v", a, b, n, e, m, f)
		}
		if m, f := Times(Norm(a), Norm(b)); n != m || e != f {
			t.Fatalf("Times(%v, %v): %v, %v; of lowest terms %v, %v", a, b, n, e, m, f)
		}
	}
}

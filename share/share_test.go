package share

import (
	"math"
	"math/big"
	"math/rand"
	"slices"
	"testing"

	"gavelkind/api"
	"gavelkind/ratio"
	"gavelkind/scale"
)

const most, least, top, full = math.MaxInt, math.MinInt, api.MaxRatio, api.MaxShare

func of(num, den int) api.Ratio { return api.Ratio{Num: num, Den: den} }

// shares are some that may be: the ends, what makes halves, and what divides 10000 by 2 or by 5 alone.
func shares() []int {
	return []int{0, 1, 2, 3, 16, 625, 1250, 2500, 3333, 3334, 4999, 5000, 5001, 6667, 7500, 8192, 9998, 9999, 10000}
}

// wrongShares are numbers that are no shares; some of them look like one, if bits are cut off.
func wrongShares() []int {
	return []int{-1, -2, -5000, -9999, -10000, -10001, 10001, 10002, 20000, 1 << 16, 1<<16 + 5000, 1 << 32, 1<<32 + 1, 1<<32 + 5000, top, least, least + 1, least + 5000, most - 1, most}
}

// amounts are the ends of the range, what makes halves on either side of 0, and what stands beside it.
func amounts() []int {
	l := []int{least, least + 1, least / 2, most / 2, most - 1, most}
	for _, n := range []int{0, 1, 2, 3, 4, 5, 6, 7, 8, 12, 99, 100, 101, 4999, 5000, 5001, 9999, 10000, 10001, 14999, 15000, 15001, 25000, top, 1<<62 - 1, 1 << 62} {
		l = append(l, n, -n)
	}
	return l
}

func drawnShare(r *rand.Rand) int {
	if r.Intn(3) == 0 {
		return shares()[r.Intn(len(shares()))]
	}
	return r.Intn(full + 1)
}

func drawnAmount(r *rand.Rand) int {
	if r.Intn(3) == 0 {
		return amounts()[r.Intn(len(amounts()))]
	}
	return int(r.Uint64()) >> r.Intn(64)
}

func whole(n int) *big.Int { return big.NewInt(int64(n)) }

// nearest tells x times a share, as a part of 10000, by the distances of both neighbours.
func nearest(x, share int) *big.Int {
	product := new(big.Int).Mul(whole(x), whole(share))
	below, left := new(big.Int).DivMod(product, whole(full), new(big.Int)) // downward, as the lower number is above 0
	above := new(big.Int).Add(below, whole(1))
	missing := new(big.Int).Sub(whole(full), left)
	switch left.Cmp(missing) {
	case -1:
		return below
	case 1:
		return above
	}
	if below.Bit(0) == 0 {
		return below
	}
	return above
}

// P5.1: the shares at both ends, what stands beside them, and numbers far away.
func TestCheck(t *testing.T) {
	for n := -30000; n <= 30000; n++ {
		want := api.ErrShare
		if n >= 0 && n <= 10000 {
			want = api.OK
		}
		if e := Check(n); e != want {
			t.Errorf("Check(%d): %v", n, e)
		}
	}
	for _, n := range wrongShares() {
		if e := Check(n); e != api.ErrShare {
			t.Errorf("Check(%d): %v", n, e)
		}
	}
}

// P5.2: what Parent and Minor tell, written out: halves on either side of 0, the ends of the range, and both ends of the shares.
func TestParentAndMinor(t *testing.T) {
	for _, x := range []struct{ x, share, parent, minor int }{
		{7, 5000, 4, 3}, // 3 and a half
		{5, 5000, 2, 3}, // 2 and a half
		{3, 5000, 2, 1},
		{1, 5000, 0, 1},
		{-1, 5000, 0, -1},
		{-3, 5000, -2, -1},
		{-5, 5000, -2, -3},
		{-7, 5000, -4, -3},
		{2, 2500, 0, 2}, // a half
		{6, 2500, 2, 4}, // 1 and a half
		{-2, 2500, 0, -2},
		{-6, 2500, -2, -4},
		{2, 7500, 2, 0}, // 1 and a half: all goes to the parent
		{-2, 7500, -2, 0},
		{6, 7500, 4, 2}, // 4 and a half
		{-6, 7500, -4, -2},
		{4, 1250, 0, 4},
		{12, 1250, 2, 10},
		{5000, 1, 0, 5000},   // a half
		{15000, 1, 2, 14998}, // 1 and a half
		{-5000, 1, 0, -5000},
		{-15000, 1, -2, -14998},
		{5000, 9999, 5000, 0}, // 4999 and a half
		{15000, 9999, 14998, 2},
		{-5000, 9999, -5000, 0},
		{-15000, 9999, -14998, -2},
		{4999, 1, 0, 4999},
		{5001, 1, 1, 5000},
		{-4999, 1, 0, -4999},
		{-5001, 1, -1, -5000},
		{1, 4999, 0, 1},
		{1, 5001, 1, 0},
		{-1, 4999, 0, -1},
		{-1, 5001, -1, 0},
		{100, 3333, 33, 67},
		{-100, 3333, -33, -67},
		{0, 0, 0, 0},
		{0, 1, 0, 0},
		{0, 5000, 0, 0},
		{0, 9999, 0, 0},
		{0, 10000, 0, 0},
		{9, 0, 0, 9},
		{-9, 0, 0, -9},
		{9, 10000, 9, 0},
		{-9, 10000, -9, 0},
		{most, 0, 0, most},
		{least, 0, 0, least},
		{most, 10000, most, 0},
		{least, 10000, least, 0},
		{most, 5000, 1 << 62, 1<<62 - 1}, // 2^62 less a half
		{least, 5000, -1 << 62, -1 << 62},
		{least + 1, 5000, -1 << 62, 1 - 1<<62},
		{most, 1, 922337203685478, 9222449699651090329},
		{least, 1, -922337203685478, -9222449699651090330},
		{most, 9999, 9222449699651090329, 922337203685478},
		{least, 9999, -9222449699651090330, -922337203685478},
	} {
		parts(t, x.x, x.share, x.parent, x.minor)
	}
}

func parts(t *testing.T, x, share, parent, minor int) {
	t.Helper()
	if n, e := Parent(x, share); n != parent || e != api.OK {
		t.Errorf("Parent(%d, %d): %d, %v, not %d", x, share, n, e, parent)
	}
	if n, e := Minor(x, share); n != minor || e != api.OK {
		t.Errorf("Minor(%d, %d): %d, %v, not %d", x, share, n, e, minor)
	}
}

// P5.2: what is no share is told so, with nothing beside it.
func TestPartsOfNoShare(t *testing.T) {
	for _, share := range wrongShares() {
		for _, x := range amounts() {
			if n, e := Parent(x, share); n != 0 || e != api.ErrShare {
				t.Errorf("Parent(%d, %d): %d, %v", x, share, n, e)
			}
			if n, e := Minor(x, share); n != 0 || e != api.ErrShare {
				t.Errorf("Minor(%d, %d): %d, %v", x, share, n, e)
			}
		}
	}
}

// P5.2: the edges with one another, every share of some amounts, and drawn ones, held against whole numbers and against what scale tells. (The draw is the same each time.)
func TestPartsAgainstWholeNumbers(t *testing.T) {
	for _, x := range amounts() {
		for _, share := range shares() {
			partsAgainstWholeNumbers(t, x, share)
		}
	}
	for share := 0; share <= full; share++ {
		for _, x := range []int{least, -15000, -5000, -1, 1, 5000, 15000, most} {
			partsAgainstWholeNumbers(t, x, share)
		}
	}
	r := rand.New(rand.NewSource(1))
	for range 50000 {
		partsAgainstWholeNumbers(t, drawnAmount(r), drawnShare(r))
	}
}

func partsAgainstWholeNumbers(t *testing.T, x, share int) {
	t.Helper()
	near := nearest(x, share)
	rest := new(big.Int).Sub(whole(x), near)
	if !near.IsInt64() || !rest.IsInt64() {
		t.Fatalf("of %d with %d: %v and %v", x, share, near, rest)
	}
	parts(t, x, share, int(near.Int64()), int(rest.Int64()))
	if n, e := scale.Scale(x, share, full); n != int(near.Int64()) || e != api.OK {
		t.Errorf("of %d with %d: by scale %d, %v", x, share, n, e)
	}
}

// repeated tells a list of one share, so many times.
func repeated(share, count int) []int { return slices.Repeat([]int{share}, count) }

// P5.3: what Chain tells, written out: no share, one, zeros and wrong ones at any place, products at 10^12 and above it.
func TestChain(t *testing.T) {
	none := api.Ratio{}
	for _, x := range []struct {
		name   string
		shares []int
		want   api.Ratio
		e      api.Errno
	}{
		{"nil", nil, of(1, 1), api.OK},
		{"none", []int{}, of(1, 1), api.OK},
		{"the whole", []int{10000}, of(1, 1), api.OK},
		{"nearly the whole", []int{9999}, of(9999, 10000), api.OK},
		{"the least above 0", []int{1}, of(1, 10000), api.OK},
		{"a half", []int{5000}, of(1, 2), api.OK},
		{"one in lowest terms", []int{2500}, of(1, 4), api.OK},
		{"one of a power of 2", []int{8192}, of(512, 625), api.OK},
		{"just 0", []int{0}, of(0, 1), api.OK},
		{"one below 0", []int{-1}, none, api.ErrShare},
		{"one above the whole", []int{10001}, none, api.ErrShare},
		{"the least number", []int{least}, none, api.ErrShare},
		{"the greatest number", []int{most}, none, api.ErrShare},
		{"two", []int{8000, 5000}, of(2, 5), api.OK},
		{"two, turned round", []int{5000, 8000}, of(2, 5), api.OK},
		{"the whole of the whole", []int{10000, 10000}, of(1, 1), api.OK},
		{"the whole, often", repeated(10000, 100000), of(1, 1), api.OK},
		{"a half of the whole, often", append(repeated(10000, 1000), 5000), of(1, 2), api.OK},
		{"three quarters of three quarters", []int{7500, 7500}, of(9, 16), api.OK},
		{"0 ahead", []int{0, 5000, 8000}, of(0, 1), api.OK},
		{"0 between", []int{5000, 0, 8000}, of(0, 1), api.OK},
		{"0 at the end", []int{5000, 8000, 0}, of(0, 1), api.OK},
		{"zeros alone", []int{0, 0, 0}, of(0, 1), api.OK},
		{"0 of the whole", []int{10000, 0}, of(0, 1), api.OK},
		{"wrong ahead", []int{-1, 5000, 8000}, none, api.ErrShare},
		{"wrong between", []int{5000, 10001, 8000}, none, api.ErrShare},
		{"wrong at the end", []int{5000, 8000, -1}, none, api.ErrShare},
		{"wrong behind a 0", []int{0, -1}, none, api.ErrShare},
		{"wrong ahead of a 0", []int{10001, 0}, none, api.ErrShare},
		{"wrong far behind a 0", []int{5000, 0, 8000, 10000, most}, none, api.ErrShare},
		{"just 10^12", []int{1, 1, 1}, of(1, top), api.OK},
		{"just 10^12, and the whole", []int{1, 10000, 1, 10000, 1, 10000}, of(1, top), api.OK},
		{"just 10^12 below, and a great number above", []int{9999, 9999, 9999}, of(999700029999, top), api.OK},
		{"just 10^12 in lowest terms, of a greater product", []int{2, 2, 2, 1250}, of(1, top), api.OK},
		{"just above 10^12", []int{1, 1, 625, 625, 250}, none, api.ErrOver}, // 2^19 times 5^9, the next one that there is
		{"a step short of it", []int{1, 1, 625, 625}, of(1, 1<<16*390625), api.OK},
		{"twice 10^12", []int{1, 1, 1, 5000}, none, api.ErrOver},
		{"twice 10^12 by the first ones", []int{5000, 1, 1, 1}, none, api.ErrOver},
		{"10^16", []int{1, 1, 1, 1}, none, api.ErrOver},
		{"10^16, and a great number above", []int{9999, 9999, 9999, 9999}, none, api.ErrOver},
		{"2^39, the last power of 2", repeated(5000, 39), of(1, 1<<39), api.OK},
		{"2^40", repeated(5000, 40), none, api.ErrOver},
		{"2^64, which is 0 in one word", repeated(625, 16), none, api.ErrOver},
		{"beyond the range, and the whole", []int{1, 1, 1, 1, 10000}, none, api.ErrOver},
		{"0 behind what is beyond the range", []int{1, 1, 1, 1, 0}, of(0, 1), api.OK},
		{"0 ahead of what is beyond the range", []int{0, 1, 1, 1, 1}, of(0, 1), api.OK},
		{"0 between what is beyond the range", []int{1, 1, 0, 1, 1}, of(0, 1), api.OK},
		{"wrong behind what is beyond the range", []int{1, 1, 1, 1, 10001}, none, api.ErrShare},
		{"0 and wrong behind what is beyond the range", []int{1, 1, 1, 1, 0, -1}, none, api.ErrShare},
		{"wrong and 0 behind what is beyond the range", []int{1, 1, 1, 1, least, 0}, none, api.ErrShare},
	} {
		if r, e := Chain(x.shares...); r != x.want || e != x.e {
			t.Errorf("%s: %v, %v", x.name, r, e)
		}
	}
}

// P5.3: what is beyond the range on the way stays so, although the same shares in another order come to a rate that may be.
func TestChainBeyondTheRangeOnTheWay(t *testing.T) {
	first := append(repeated(8192, 5), repeated(3125, 5)...) // 512 of 625, of which the fifth is beyond it; 5 of 16
	if r, e := Chain(first...); r != (api.Ratio{}) || e != api.ErrOver {
		t.Errorf("one behind the other: %v, %v", r, e)
	}
	if r, e := Chain(first[:4]...); r != of(1<<36, 152587890625) || e != api.OK {
		t.Errorf("four of them: %v, %v", r, e)
	}
	if r, e := Chain(first[:5]...); r != (api.Ratio{}) || e != api.ErrOver {
		t.Errorf("five of them: %v, %v", r, e)
	}
	turns := slices.Repeat([]int{8192, 3125}, 5)
	if r, e := Chain(turns...); r != of(1<<25, 30517578125) || e != api.OK {
		t.Errorf("in turns: %v, %v", r, e)
	}
}

// chained tells what Chain has to answer, by exact products.
func chained(shares []int) (api.Ratio, api.Errno) {
	product, zero, over := big.NewRat(1, 1), false, false
	for _, share := range shares {
		if share < 0 || share > full {
			return api.Ratio{}, api.ErrShare
		}
		zero = zero || share == 0
		product.Mul(product, big.NewRat(int64(share), full))
		over = over || product.Num().Cmp(whole(top)) > 0 || product.Denom().Cmp(whole(top)) > 0
	}
	if zero {
		return of(0, 1), api.OK
	}
	if over {
		return api.Ratio{}, api.ErrOver
	}
	return of(int(product.Num().Int64()), int(product.Denom().Int64())), api.OK
}

// drawnChain draws up to eight shares; most of them divide well, so that products stay in range; some lists have a 0 or a wrong one at some place.
func drawnChain(r *rand.Rand) []int {
	l := make([]int, r.Intn(9))
	for i := range l {
		if l[i] = drawnShare(r); r.Intn(4) > 0 {
			l[i] = []int{1250, 2500, 5000, 7500, 8000, 8192, 3125, 10000}[r.Intn(8)]
		}
	}
	if len(l) > 0 && r.Intn(8) == 0 {
		l[r.Intn(len(l))] = 0
	}
	if len(l) > 0 && r.Intn(8) == 0 {
		l[r.Intn(len(l))] = wrongShares()[r.Intn(len(wrongShares()))]
	}
	return l
}

// P5.3: all edges in threes, and drawn chains, held against exact products. (The draw is the same each time.)
func TestChainAgainstExactProducts(t *testing.T) {
	edges := append([]int{-1, 10001}, shares()...)
	for _, a := range edges {
		for _, b := range edges {
			for _, c := range edges {
				againstExactProducts(t, []int{a, b, c})
			}
		}
	}
	r := rand.New(rand.NewSource(2))
	seen := map[api.Errno]int{}
	zeros := 0
	for range 30000 {
		q, e := againstExactProducts(t, drawnChain(r))
		seen[e]++
		if q == of(0, 1) {
			zeros++
		}
	}
	if seen[api.OK] < 1000 || seen[api.ErrOver] < 1000 || seen[api.ErrShare] < 1000 || zeros < 1000 {
		t.Error("the draw leaves one answer out", seen, zeros)
	}
}

func againstExactProducts(t *testing.T, l []int) (api.Ratio, api.Errno) {
	t.Helper()
	r, e := Chain(l...)
	if want, f := chained(l); r != want || e != f {
		t.Fatalf("Chain of %v: %v, %v, not %v, %v", l, r, e, want, f)
	}
	if e == api.OK && r.Num > 0 && ratio.Norm(r) != r {
		t.Fatalf("Chain of %v: %v, which are no lowest terms", l, r)
	}
	return r, e
}

// Rule 4 of the whole: a list that is handed in is not changed, its spare room neither.
func TestListIsLeftUnchanged(t *testing.T) {
	for _, l := range [][]int{{8000, 5000, 1, 77}, {0, 5000, 3, 77}, {1, -1, 10001, 77}, {9999, 9999, 9999, 77}} {
		kept := slices.Clone(l)
		Chain(l[:3]...)
		if !slices.Equal(l, kept) {
			t.Errorf("of %v there is %v", kept, l)
		}
	}
}

// P5.4: both parts are the amount, and none of them is on the other side of 0, or further from it.
func TestPartsAreTheAmount(t *testing.T) {
	r := rand.New(rand.NewSource(3))
	for _, x := range amounts() {
		for _, share := range shares() {
			partsAreTheAmount(t, x, share)
		}
	}
	for range 50000 {
		partsAreTheAmount(t, drawnAmount(r), drawnShare(r))
	}
}

func partsAreTheAmount(t *testing.T, x, share int) {
	t.Helper()
	parent, e := Parent(x, share)
	minor, f := Minor(x, share)
	if sum := new(big.Int).Add(whole(parent), whole(minor)); sum.Cmp(whole(x)) != 0 || e != api.OK || f != api.OK {
		t.Fatalf("of %d with %d: %d and %d, %v and %v", x, share, parent, minor, e, f)
	}
	for _, part := range []int{parent, minor} {
		if part < min(x, 0) || part > max(x, 0) {
			t.Fatalf("of %d with %d: %d and %d", x, share, parent, minor)
		}
	}
}

func parentOf(t *testing.T, x, share int) int {
	t.Helper()
	n, e := Parent(x, share)
	if e != api.OK {
		t.Fatalf("Parent(%d, %d): %v", x, share, e)
	}
	return n
}

// P5.5: of an amount of at least 0 a greater share never has a lesser Parent, from each share to the next one.
func TestGreaterShares(t *testing.T) {
	for _, x := range amounts() {
		if x < 0 {
			continue
		}
		for share := 1; share <= full; share++ {
			if parentOf(t, x, share) < parentOf(t, x, share-1) {
				t.Fatalf("of %d the Parent with %d is less than with %d", x, share, share-1)
			}
		}
	}
}

// P5.5: of one share a greater amount never has a lesser Parent.
func TestGreaterAmounts(t *testing.T) {
	for _, share := range shares() {
		for _, x := range amounts() {
			for _, y := range amounts() {
				rises(t, min(x, y), max(x, y), share)
			}
			rises(t, x, max(x, x+1), share) // behind the greatest number stands none
		}
	}
	r := rand.New(rand.NewSource(4))
	for range 50000 {
		x, y := drawnAmount(r), drawnAmount(r)
		rises(t, min(x, y), max(x, y), drawnShare(r))
		rises(t, x, max(x, x+1), drawnShare(r))
	}
}

func rises(t *testing.T, x, y, share int) {
	t.Helper()
	if parentOf(t, x, share) > parentOf(t, y, share) {
		t.Fatalf("with %d the Parent of %d is more than that of %d", share, x, y)
	}
}

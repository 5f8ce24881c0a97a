package num

import (
	"math"
	"math/big"
	"math/rand"
	"slices"
	"testing"

	"gavelkind/api"
)

const most, least = math.MaxInt, math.MinInt

// edges stand where a word wraps round, where signs change, and between.
func edges() []int {
	return []int{least, least + 1, least + 2, least / 2, least/2 - 1, -1 << 32, -7, -2, -1, 0, 1, 2, 7, 1 << 32, most / 2, most/2 + 1, most - 2, most - 1, most}
}

// want tells what a call has to answer where the whole number is x.
func want(x *big.Int) (int, api.Errno) {
	if !x.IsInt64() {
		return 0, api.ErrOver
	}
	return int(x.Int64()), api.OK
}

func whole(n int) *big.Int { return big.NewInt(int64(n)) }

func net(plus, minus []int) *big.Int {
	x := new(big.Int)
	for _, n := range plus {
		x.Add(x, whole(n))
	}
	for _, n := range minus {
		x.Sub(x, whole(n))
	}
	return x
}

// drawn draws lists that are often beyond the range on their way: about half of the numbers are edges.
func drawn(r *rand.Rand, longest int) []int {
	l := make([]int, r.Intn(longest+1))
	for i := range l {
		if r.Intn(2) == 0 {
			l[i] = edges()[r.Intn(len(edges()))]
		} else {
			l[i] = int(r.Uint64())
		}
	}
	return l
}

// P1.1: ordinary numbers, written out.
func TestPlainNumbers(t *testing.T) {
	for _, x := range []struct{ a, b, sum, less, cmp int }{
		{2, 3, 5, -1, -1},
		{3, 2, 5, 1, 1},
		{-2, 3, 1, -5, -1},
		{-2, -3, -5, 1, 1},
		{4, 4, 8, 0, 0},
		{0, 0, 0, 0, 0},
		{-4, -4, -8, 0, 0},
	} {
		if n, e := Add(x.a, x.b); n != x.sum || e != api.OK {
			t.Errorf("Add(%d, %d): %d, %v", x.a, x.b, n, e)
		}
		if n, e := Sub(x.a, x.b); n != x.less || e != api.OK {
			t.Errorf("Sub(%d, %d): %d, %v", x.a, x.b, n, e)
		}
		if n := Cmp(x.a, x.b); n != x.cmp {
			t.Errorf("Cmp(%d, %d): %d", x.a, x.b, n)
		}
	}
}

// P1.1: both ends of the range, and one beyond each of them, written out.
func TestEndsOfRange(t *testing.T) {
	for _, x := range []struct {
		name string
		call func() (int, api.Errno)
		n    int
		e    api.Errno
	}{
		{"most + 1", func() (int, api.Errno) { return Add(most, 1) }, 0, api.ErrOver},
		{"most-1 + 1", func() (int, api.Errno) { return Add(most-1, 1) }, most, api.OK},
		{"most + most", func() (int, api.Errno) { return Add(most, most) }, 0, api.ErrOver},
		{"least + -1", func() (int, api.Errno) { return Add(least, -1) }, 0, api.ErrOver},
		{"least+1 + -1", func() (int, api.Errno) { return Add(least+1, -1) }, least, api.OK},
		{"least + least", func() (int, api.Errno) { return Add(least, least) }, 0, api.ErrOver},
		{"least + most", func() (int, api.Errno) { return Add(least, most) }, -1, api.OK},
		{"least - 1", func() (int, api.Errno) { return Sub(least, 1) }, 0, api.ErrOver},
		{"most - -1", func() (int, api.Errno) { return Sub(most, -1) }, 0, api.ErrOver},
		{"0 - least", func() (int, api.Errno) { return Sub(0, least) }, 0, api.ErrOver},
		{"-1 - least", func() (int, api.Errno) { return Sub(-1, least) }, most, api.OK},
		{"least - least", func() (int, api.Errno) { return Sub(least, least) }, 0, api.OK},
		{"most - least", func() (int, api.Errno) { return Sub(most, least) }, 0, api.ErrOver},
		{"least - most", func() (int, api.Errno) { return Sub(least, most) }, 0, api.ErrOver},
		{"neg least", func() (int, api.Errno) { return Neg(least) }, 0, api.ErrOver},
		{"neg least+1", func() (int, api.Errno) { return Neg(least + 1) }, most, api.OK},
		{"neg most", func() (int, api.Errno) { return Neg(most) }, least + 1, api.OK},
		{"neg 0", func() (int, api.Errno) { return Neg(0) }, 0, api.OK},
		{"abs least", func() (int, api.Errno) { return Abs(least) }, 0, api.ErrOver},
		{"abs least+1", func() (int, api.Errno) { return Abs(least + 1) }, most, api.OK},
		{"abs most", func() (int, api.Errno) { return Abs(most) }, most, api.OK},
		{"abs -5", func() (int, api.Errno) { return Abs(-5) }, 5, api.OK},
		{"abs 5", func() (int, api.Errno) { return Abs(5) }, 5, api.OK},
		{"abs 0", func() (int, api.Errno) { return Abs(0) }, 0, api.OK},
	} {
		if n, e := x.call(); n != x.n || e != x.e {
			t.Errorf("%s: %d, %v", x.name, n, e)
		}
	}
	if Cmp(least, most) != -1 || Cmp(most, least) != 1 || Cmp(least, least) != 0 || Cmp(most, most) != 0 {
		t.Error("Cmp goes astray at the ends of the range")
	}
}

// P1.1: all edges with one another, held against whole numbers.
func TestAgainstWholeNumbers(t *testing.T) {
	for _, a := range edges() {
		x := whole(a)
		n, e := Neg(a)
		if m, f := want(new(big.Int).Neg(x)); n != m || e != f {
			t.Errorf("Neg(%d): %d, %v", a, n, e)
		}
		n, e = Abs(a)
		if m, f := want(new(big.Int).Abs(x)); n != m || e != f {
			t.Errorf("Abs(%d): %d, %v", a, n, e)
		}
		for _, b := range edges() {
			y := whole(b)
			n, e = Add(a, b)
			if m, f := want(new(big.Int).Add(x, y)); n != m || e != f {
				t.Errorf("Add(%d, %d): %d, %v", a, b, n, e)
			}
			n, e = Sub(a, b)
			if m, f := want(new(big.Int).Sub(x, y)); n != m || e != f {
				t.Errorf("Sub(%d, %d): %d, %v", a, b, n, e)
			}
			if n := Cmp(a, b); n != x.Cmp(y) {
				t.Errorf("Cmp(%d, %d): %d", a, b, n)
			}
		}
	}
}

// P1.2: what Sum tells, at the edges.
func TestSum(t *testing.T) {
	for i, x := range []struct {
		l []int
		n int
		e api.Errno
	}{
		{nil, 0, api.OK},
		{[]int{}, 0, api.OK},
		{[]int{5}, 5, api.OK},
		{[]int{1, -2, 3, 40}, 42, api.OK},
		{[]int{most}, most, api.OK},
		{[]int{least}, least, api.OK},
		{[]int{most, 1, -1}, most, api.OK},
		{[]int{least, -1, 1}, least, api.OK},
		{[]int{most, most, most, least, least, least}, -3, api.OK},
		{[]int{least, least, least, most, most, most, 3}, 0, api.OK},
		{[]int{most, 1}, 0, api.ErrOver},
		{[]int{least, -1}, 0, api.ErrOver},
		{[]int{most, most, 2}, 0, api.ErrOver},
		{[]int{least, least}, 0, api.ErrOver},
		{[]int{most, 1, most, 1, most, 1, most, 1}, 0, api.ErrOver},
		{[]int{least, least, least, least}, 0, api.ErrOver},
	} {
		if n, e := Sum(x.l); n != x.n || e != x.e {
			t.Errorf("%d: Sum: %d, %v", i, n, e)
		}
		if n, e := Net(x.l, nil); n != x.n || e != x.e {
			t.Errorf("%d: Net of that less nothing: %d, %v", i, n, e)
		}
	}
}

// P1.2: what Net tells, at the edges.
func TestNet(t *testing.T) {
	for i, x := range []struct {
		plus, minus []int
		n           int
		e           api.Errno
	}{
		{nil, nil, 0, api.OK},
		{[]int{}, []int{}, 0, api.OK},
		{nil, []int{}, 0, api.OK},
		{[]int{1, 2, 3}, []int{10}, -4, api.OK},
		{[]int{10}, []int{1, 2, 3}, 4, api.OK},
		{nil, []int{most}, least + 1, api.OK},
		{nil, []int{most, 1}, least, api.OK},
		{nil, []int{most, 2}, 0, api.ErrOver},
		{nil, []int{least}, 0, api.ErrOver},
		{[]int{-1}, []int{least}, most, api.OK},
		{[]int{least}, []int{least}, 0, api.OK},
		{[]int{most, most}, []int{most}, most, api.OK},
		{[]int{most, most, 1}, []int{most}, 0, api.ErrOver},
		{[]int{least, least}, []int{least}, least, api.OK},
		{[]int{least, least}, []int{least, 1}, 0, api.ErrOver},
		{[]int{most}, []int{least}, 0, api.ErrOver},
		{[]int{least}, []int{most}, 0, api.ErrOver},
		{[]int{least, least, least}, []int{least, least, most, least}, least + 1, api.OK},
	} {
		if n, e := Net(x.plus, x.minus); n != x.n || e != x.e {
			t.Errorf("%d: Net: %d, %v", i, n, e)
		}
	}
}

// P1.2: drawn lists, held against whole numbers. (The draw is the same each time.)
func TestListsAgainstWholeNumbers(t *testing.T) {
	r := rand.New(rand.NewSource(1))
	seen := map[api.Errno]int{}
	for range 20000 {
		l, k := drawn(r, 6), drawn(r, 6)
		n, e := Sum(l)
		if m, f := want(net(l, nil)); n != m || e != f {
			t.Fatalf("Sum(%d): %d, %v", l, n, e)
		}
		n, e = Net(l, k)
		if m, f := want(net(l, k)); n != m || e != f {
			t.Fatalf("Net(%d, %d): %d, %v", l, k, n, e)
		}
		seen[e]++
	}
	if seen[api.OK] < 1000 || seen[api.ErrOver] < 1000 {
		t.Error("the draw leaves one answer out", seen)
	}
}

// P1.2: a long way out of the range and back, further than one word more of any few bits would keep.
func TestLongWayBack(t *testing.T) {
	const count = 1 << 17
	out, back := make([]int, count), make([]int, count)
	for i := range count {
		out[i], back[i] = least, most
	}
	if n, e := Sum(slices.Concat(out, back)); n != -count || e != api.OK {
		t.Error(n, e)
	}
	if n, e := Net(out, out[1:]); n != least || e != api.OK {
		t.Error(n, e)
	}
	if n, e := Net(back, out); n != 0 || e != api.ErrOver {
		t.Error(n, e)
	}
	if n, e := Sum(out); n != 0 || e != api.ErrOver { // a multiple of 2^64: the lower word is 0
		t.Error(n, e)
	}
}

// P1.3: what was added can be taken off again.
func TestBack(t *testing.T) {
	for _, a := range edges() {
		for _, b := range edges() {
			c, e := Add(a, b)
			if e != api.OK {
				continue
			}
			if n, e := Sub(c, b); n != a || e != api.OK {
				t.Errorf("Sub(%d, %d): %d, %v, added to %d", c, b, n, e, a)
			}
		}
	}
}

// P1.4: a Sum is the same in any order, in range and beyond it.
func TestSumInAnyOrder(t *testing.T) {
	r := rand.New(rand.NewSource(2))
	for range 5000 {
		l := drawn(r, 7)
		n, e := Sum(l)
		turned := slices.Clone(l)
		slices.Reverse(turned)
		sorted := slices.Sorted(slices.Values(l))
		shuffled := slices.Clone(l)
		r.Shuffle(len(l), func(i, j int) { shuffled[i], shuffled[j] = shuffled[j], shuffled[i] })
		for _, k := range [][]int{turned, sorted, shuffled} {
			if m, f := Sum(k); m != n || f != e {
				t.Fatalf("Sum(%d): %d, %v; Sum(%d): %d, %v", l, n, e, k, m, f)
			}
		}
	}
}

// P1.4: Net of a list and itself is 0; turned round it is the opposite.
func TestNetTurnedRound(t *testing.T) {
	r := rand.New(rand.NewSource(3))
	for range 5000 {
		l, k := drawn(r, 5), drawn(r, 5)
		if n, e := Net(l, l); n != 0 || e != api.OK {
			t.Fatalf("Net(%d, itself): %d, %v", l, n, e)
		}
		n, e := Net(l, k)
		if e != api.OK {
			continue
		}
		m, f := Net(k, l)
		if opposite, over := Neg(n); m != opposite || f != over {
			t.Fatalf("Net(%d, %d): %d; turned round: %d, %v", l, k, n, m, f)
		}
	}
	if n, e := Net([]int{least}, nil); n != least || e != api.OK {
		t.Error(n, e)
	}
	if n, e := Net(nil, []int{least}); n != 0 || e != api.ErrOver {
		t.Error(n, e)
	}
}

// Rule 4: lists that are handed in stay as they are, with their spare room.
func TestListsStay(t *testing.T) {
	for _, x := range [][2][]int{
		{{most, 1, -1, 77, 78}, {3, least, 5, 79, 80}},
		{{most, most, most, 77, 78}, {least, least, least, 79, 80}},
	} {
		plus, minus := slices.Clone(x[0]), slices.Clone(x[1])
		Sum(plus[:3])
		Net(plus[:3], minus[:3])
		Net(plus[:3], plus[:3])
		if !slices.Equal(plus, x[0]) || !slices.Equal(minus, x[1]) {
			t.Errorf("changed: %d, %d", plus, minus)
		}
	}
}

package decimal

import (
	"fmt"
	"math"
	"math/big"
	"math/rand"
	"strings"
	"testing"

	"gavelkind/api"
	"gavelkind/scale"
)

const most, least = math.MaxInt, math.MinInt

// wrongDigits are numbers of decimals that may not be; some of them look like one that may, if bits are cut off.
func wrongDigits() []int {
	return []int{-1, -2, -6, -7, 7, 8, 10, 1 << 8, 1<<8 + 2, 1 << 16, 1 << 32, 1<<32 + 1, 1<<32 + 6, least, least + 1, least + 6, most - 1, most}
}

// amounts are both sides of one whole, and of what makes halves, of every number of decimals, and the ends of the range.
func amounts() []int {
	l := []int{0, least, least + 1, least + 2, least / 2, most / 2, most - 2, most - 1, most}
	for unit := 1; unit <= 1000000; unit *= 10 {
		for _, n := range []int{unit - 1, unit, unit + 1, 5*unit - 1, 5 * unit, 5*unit + 1, 15 * unit, 25 * unit, 123 * unit, most / unit, most/unit + 1} {
			l = append(l, n, -n)
		}
	}
	return l
}

// drawn draws edges, and numbers of any length.
func drawn(r *rand.Rand) int {
	if r.Intn(3) == 0 {
		return amounts()[r.Intn(len(amounts()))]
	}
	return int(r.Uint64()) >> r.Intn(64)
}

func of(n int) *big.Int { return big.NewInt(int64(n)) }

// unit is 10 to a number of decimals, as a whole number.
func unit(digits int) *big.Int { return new(big.Int).Exp(of(10), of(digits), nil) }

// text is the text of a whole number, however great, told by a division.
func text(x *big.Int, digits int) string {
	sign := ""
	if x.Sign() < 0 {
		sign = "-"
	}
	wholes, left := new(big.Int).QuoRem(new(big.Int).Abs(x), unit(digits), new(big.Int))
	if digits == 0 {
		return sign + wholes.String()
	}
	return fmt.Sprintf("%s%s.%0*d", sign, wholes, digits, left.Int64())
}

// read tells what Parse has to answer: each text has the digits of its number, and noughts ahead; so it is looked for among two numbers.
func read(s string, digits int) (int, api.Errno) {
	if digits < 0 || digits > 6 {
		return 0, api.ErrArg
	}
	all := strings.Map(func(r rune) rune {
		if r >= '0' && r <= '9' {
			return r
		}
		return -1
	}, s)
	x, ok := new(big.Int).SetString("0"+all, 10)
	if !ok {
		panic(s)
	}
	if text(x, digits) != s {
		x.Neg(x)
	}
	switch {
	case text(x, digits) != s:
		return 0, api.ErrForm
	case !x.IsInt64():
		return 0, api.ErrOver
	}
	return int(x.Int64()), api.OK
}

// P6.1, P6.2: texts written out, and read back.
func TestTexts(t *testing.T) {
	for _, x := range []struct {
		n, digits int
		s         string
	}{
		{0, 0, "0"}, {0, 1, "0.0"}, {0, 2, "0.00"}, {0, 6, "0.000000"},
		{1, 0, "1"}, {1, 1, "0.1"}, {1, 2, "0.01"}, {1, 6, "0.000001"},
		{-1, 0, "-1"}, {-1, 1, "-0.1"}, {-1, 2, "-0.01"}, {-1, 6, "-0.000001"},
		{-5, 2, "-0.05"},
		{9, 1, "0.9"}, {10, 1, "1.0"}, {11, 1, "1.1"}, {-9, 1, "-0.9"}, {-10, 1, "-1.0"},
		{99, 2, "0.99"}, {100, 2, "1.00"}, {101, 2, "1.01"}, {-99, 2, "-0.99"}, {-100, 2, "-1.00"}, {-101, 2, "-1.01"},
		{999999, 6, "0.999999"}, {1000000, 6, "1.000000"}, {1000001, 6, "1.000001"},
		{-999999, 6, "-0.999999"}, {-1000000, 6, "-1.000000"}, {-1000001, 6, "-1.000001"},
		{12345, 0, "12345"}, {12345, 1, "1234.5"}, {12345, 2, "123.45"}, {12345, 3, "12.345"}, {12345, 4, "1.2345"}, {12345, 5, "0.12345"}, {12345, 6, "0.012345"},
		{100, 0, "100"}, {100, 1, "10.0"}, {-100, 0, "-100"},
		{most, 0, "9223372036854775807"}, {most, 1, "922337203685477580.7"}, {most, 2, "92233720368547758.07"}, {most, 6, "9223372036854.775807"},
		{least, 0, "-9223372036854775808"}, {least, 1, "-922337203685477580.8"}, {least, 2, "-92233720368547758.08"}, {least, 6, "-9223372036854.775808"},
		{most - 1, 0, "9223372036854775806"}, {least + 1, 0, "-9223372036854775807"},
	} {
		if s, e := Print(x.n, x.digits); s != x.s || e != api.OK {
			t.Errorf("Print(%d, %d): %q, %v", x.n, x.digits, s, e)
		}
		if n, e := Parse(x.s, x.digits); n != x.n || e != api.OK {
			t.Errorf("Parse(%q, %d): %d, %v", x.s, x.digits, n, e)
		}
	}
}

// P6.1, P6.4: edges and drawn amounts with every number of decimals, held against whole numbers, and back. (The draw is the same each time.)
func TestPrintAgainstWholeNumbers(t *testing.T) {
	r := rand.New(rand.NewSource(1))
	l := amounts()
	for range 20000 {
		l = append(l, drawn(r))
	}
	for _, x := range l {
		for digits := range 7 {
			s, e := Print(x, digits)
			if want := text(of(x), digits); s != want || e != api.OK {
				t.Fatalf("Print(%d, %d): %q, %v, not %q", x, digits, s, e, want)
			}
			if n, e := Parse(s, digits); n != x || e != api.OK {
				t.Fatalf("Parse(%q, %d): %d, %v", s, digits, n, e)
			}
		}
	}
}

// P6.1 to P6.3: numbers of decimals that may not be are told ahead of all else, with nothing beside the error.
func TestDigitsThatMayNotBe(t *testing.T) {
	for _, digits := range wrongDigits() {
		for _, x := range amounts() {
			if s, e := Print(x, digits); s != "" || e != api.ErrArg {
				t.Errorf("Print(%d, %d): %q, %v", x, digits, s, e)
			}
			for _, other := range []int{-1, 0, 1, 6, 7, least, most} {
				rescaled(t, x, digits, other, 0, api.ErrArg)
				rescaled(t, x, other, digits, 0, api.ErrArg)
			}
		}
		for _, s := range []string{"", "0", "1", "-1", "1.0", "1.0000000", "x", "01", "99999999999999999999"} {
			if n, e := Parse(s, digits); n != 0 || e != api.ErrArg {
				t.Errorf("Parse(%q, %d): %d, %v", s, digits, n, e)
			}
		}
	}
	for digits := range 7 {
		if _, e := Print(1, digits); e != api.OK {
			t.Errorf("Print(1, %d): %v", digits, e)
		}
	}
}

// P6.2: texts of another form, written out.
func TestWrongForms(t *testing.T) {
	for _, x := range []struct {
		digits int
		texts  []string
	}{
		{0, []string{
			"", "-", "+", "+1", "+0", "-0", "--1", "-+1", "1-", "-1-", "--", "00", "01", "-01", "-00", "000", "0000000000000000000000000",
			".", "-.", "1.", "-1.", ".1", "0.", "1.0", "0.0", "1..", "a", "1a", "a1", "1e3", "0x1", "0b1", "1_000", "1,000", "inf", "NaN",
			" ", " 1", "1 ", "1 0", "- 1", "\t1", "1\n", "\n", "1\x00", "\x00", "\x001", "/", ":", "1/", "1:", "\xb1", "1\xff", "\x80", "\xff1",
			"\u0661", "\uff11", "1\u0661", "\u22121", "\u20131",
		}},
		{1, []string{"", "-", "0", "1", "10", "-1", ".", "-.", "0.", ".0", ".5", "-.5", "1.", "1.00", "1.55", "00.0", "01.5", "-01.5", "-0.0", "+0.5", "1..5", "1.5.", ".1.5", "1.-5", "1.+5", "1,5", "1.a", "a.1", "1. ", " .1", "1 .5", "1.5 ", " 1.5", "-1.5-", "\u0661.5", "1.\u0665"}},
		{2, []string{"", "-", "0", "1", "100", "1.", "1.5", "1.500", "1.5 ", "1. 5", "1..5", "1.5.", "1.55.", "1.5.5", "1.55.00", ".50", "-.50", "00.50", "01.00", "-0.00", "-00.01", "+1.00", "1,00", "1.5a", "1.a5", "1.-5", "-1.-5", "1:00", "1.\u0665", "--1.00", "1e1.00", "1.e1"}},
		{6, []string{"", "-", "0", "1", "1.", "1.00000", "1.0000000", "0.12345", "0.1234567", ".123456", "-.123456", "-0.000000", "00.123456", "0.12345x", "0.12345.", "0..12345", "0.123 56", "123456", "0123456", "1234567"}},
	} {
		for _, s := range x.texts {
			if n, e := Parse(s, x.digits); n != 0 || e != api.ErrForm {
				t.Errorf("Parse(%q, %d): %d, %v", s, x.digits, n, e)
			}
		}
	}
}

// P6.2: both ends of the range, and one beyond each of them, with every number of decimals.
func TestEndsOfRange(t *testing.T) {
	for digits := range 7 {
		for _, x := range []struct {
			end  int
			more int
			e    api.Errno
		}{
			{most, -1, api.OK}, {most, 0, api.OK}, {most, 1, api.ErrOver}, {most, 2, api.ErrOver}, {most, 3, api.ErrOver}, {most, 1000, api.ErrOver},
			{least, 1, api.OK}, {least, 0, api.OK}, {least, -1, api.ErrOver}, {least, -2, api.ErrOver}, {least, -3, api.ErrOver}, {least, -1000, api.ErrOver},
		} {
			want := 0
			if x.e == api.OK {
				want = x.end + x.more
			}
			s := text(new(big.Int).Add(of(x.end), of(x.more)), digits)
			if n, e := Parse(s, digits); n != want || e != x.e {
				t.Errorf("Parse(%q, %d): %d, %v", s, digits, n, e)
			}
		}
	}
}

// P6.2: numbers that look like one in range, if a word wraps round: around multiples of 2^63 and 2^64, and powers of 10.
func TestFarBeyondRange(t *testing.T) {
	var bases []*big.Int
	for n := range 140 {
		bases = append(bases, new(big.Int).Exp(of(2), of(n), nil), new(big.Int).Exp(of(10), of(n), nil))
	}
	for _, n := range []int{3, 5, 9, 10, 11, 100} {
		bases = append(bases, new(big.Int).Mul(of(n), new(big.Int).Exp(of(2), of(63), nil)))
	}
	for _, base := range bases {
		for more := -12; more <= 12; more++ {
			x := new(big.Int).Add(base, of(more))
			for digits := range 7 {
				againstRead(t, text(x, digits), digits)
				againstRead(t, text(new(big.Int).Neg(x), digits), digits)
			}
		}
	}
}

// P6.2: very many digits are beyond the range, unless something is wrong among them, if only at the very end.
func TestVeryManyDigits(t *testing.T) {
	const many = 100000
	for _, digit := range []string{"1", "5", "9"} {
		long := strings.Repeat(digit, many)
		for _, x := range []struct {
			s      string
			digits int
			e      api.Errno
		}{
			{long, 0, api.ErrOver}, {"-" + long, 0, api.ErrOver}, {long + ".25", 2, api.ErrOver}, {"-" + long + ".000000", 6, api.ErrOver},
			{digit + strings.Repeat("0", many), 0, api.ErrOver},
			{long + "x", 0, api.ErrForm}, {"-" + long + "x", 0, api.ErrForm}, {long + "-", 0, api.ErrForm}, {long + " ", 0, api.ErrForm}, {long + "\xff", 0, api.ErrForm},
			{long + ".", 0, api.ErrForm}, {long + ".0", 0, api.ErrForm}, {long, 2, api.ErrForm}, {long + ".", 2, api.ErrForm},
			{long + ".2", 2, api.ErrForm}, {long + ".255", 2, api.ErrForm}, {long + ".2x", 2, api.ErrForm}, {long + ".x2", 2, api.ErrForm}, {long + "x.22", 2, api.ErrForm},
			{"0" + long, 0, api.ErrForm}, {"-0" + long, 0, api.ErrForm}, {"0" + long + ".25", 2, api.ErrForm}, {"+" + long, 0, api.ErrForm}, {"x" + long, 0, api.ErrForm},
			{long + "x" + long, 0, api.ErrForm}, {"1." + long, 6, api.ErrForm}, {"0." + long, 1, api.ErrForm}, {"-" + long + "-", 0, api.ErrForm},
		} {
			if n, e := Parse(x.s, x.digits); n != 0 || e != x.e {
				t.Errorf("Parse of %d digits, %q..%q, %d: %d, %v", many, x.s[:3], x.s[len(x.s)-4:], x.digits, n, e)
			}
		}
		for _, s := range []string{strings.Repeat("0", many), strings.Repeat("0", many) + digit, "-" + strings.Repeat("0", many)} {
			if n, e := Parse(s, 0); n != 0 || e != api.ErrForm {
				t.Errorf("Parse of very many noughts: %d, %v", n, e)
			}
		}
	}
}

func againstRead(t *testing.T, s string, digits int) api.Errno {
	t.Helper()
	n, e := Parse(s, digits)
	if m, f := read(s, digits); n != m || e != f {
		t.Fatalf("Parse(%q, %d): %d, %v, not %d, %v", s, digits, n, e, m, f)
	}
	if e != api.OK {
		return e
	}
	if back, e := Print(n, digits); back != s || e != api.OK { // P6.4: what is read has just that text
		t.Fatalf("%q with %d decimals is printed as %q, %v", s, digits, back, e)
	}
	return e
}

// P6.2, P6.4: all short texts of the bytes that matter.
func TestAllShortTexts(t *testing.T) {
	bytes := []byte("-.+019 a\xb1")
	texts := []string{""}
	for range 5 {
		for _, s := range texts {
			for digits := range 4 {
				againstRead(t, s, digits)
			}
		}
		var longer []string
		for _, s := range texts {
			for _, b := range bytes {
				longer = append(longer, s+string([]byte{b}))
			}
		}
		texts = longer
	}
	for b := range 256 { // each byte at each place of a text
		for _, s := range []string{"1.25", "-1.25", "0.05", "17", "-17"} {
			for at := range len(s) + 1 {
				put := s[:at] + string([]byte{byte(b)})
				for digits := range 4 {
					againstRead(t, put+s[at:], digits)
					againstRead(t, put+s[min(at+1, len(s)):], digits)
				}
			}
		}
	}
}

// P6.2, P6.4: texts that are drawn, most of them a byte off from those of numbers. (The draw is the same each time.)
func TestDrawnTexts(t *testing.T) {
	r := rand.New(rand.NewSource(2))
	seen := map[api.Errno]int{}
	for range 60000 {
		digits := r.Intn(7)
		x := of(drawn(r))
		if r.Intn(3) == 0 {
			x.Add(x, new(big.Int).Lsh(of(r.Intn(7)-3), uint(60+r.Intn(10))))
		}
		s := []byte(text(x, digits))
		switch at := r.Intn(len(s) + 1); r.Intn(5) {
		case 0:
			s = append(s[:at:at], s[min(at+1, len(s)):]...)
		case 1:
			s = append(append(s[:at:at], "0123456789-. +"[r.Intn(14)]), s[at:]...)
		}
		seen[againstRead(t, string(s), digits)]++
	}
	if seen[api.OK] < 1000 || seen[api.ErrOver] < 1000 || seen[api.ErrForm] < 1000 {
		t.Error("the draw leaves one answer out", seen)
	}
}

func rescaled(t *testing.T, x, from, to, want int, f api.Errno) {
	t.Helper()
	if n, e := Rescale(x, from, to); n != want || e != f {
		t.Fatalf("Rescale(%d, %d, %d): %d, %v, not %d, %v", x, from, to, n, e, want, f)
	}
}

// P6.3: what Rescale tells, written out: to as many decimals, to more and to fewer, halves on both sides of 0, and both ends of the range.
func TestRescale(t *testing.T) {
	const fine, over = api.OK, api.ErrOver
	for _, x := range []struct {
		x, from, to, want int
		e                 api.Errno
	}{
		{0, 0, 0, 0, fine}, {0, 0, 6, 0, fine}, {0, 6, 0, 0, fine},
		{125, 2, 2, 125, fine}, {-125, 2, 2, -125, fine}, {most, 0, 0, most, fine}, {least, 0, 0, least, fine}, {most, 6, 6, most, fine}, {least, 6, 6, least, fine},
		{7, 0, 1, 70, fine}, {7, 0, 3, 7000, fine}, {7, 0, 6, 7000000, fine}, {-7, 2, 4, -700, fine}, {7, 5, 6, 70, fine},
		{125, 2, 1, 12, fine}, {135, 2, 1, 14, fine}, {-125, 2, 1, -12, fine}, {-135, 2, 1, -14, fine}, // just a half
		{5, 1, 0, 0, fine}, {15, 1, 0, 2, fine}, {25, 1, 0, 2, fine}, {-5, 1, 0, 0, fine}, {-15, 1, 0, -2, fine}, {-25, 1, 0, -2, fine},
		{4, 1, 0, 0, fine}, {6, 1, 0, 1, fine}, {-4, 1, 0, 0, fine}, {-6, 1, 0, -1, fine}, {14, 1, 0, 1, fine}, {16, 1, 0, 2, fine},
		{500000, 6, 0, 0, fine}, {500001, 6, 0, 1, fine}, {499999, 6, 0, 0, fine}, {1500000, 6, 0, 2, fine}, {-500000, 6, 0, 0, fine}, {-500001, 6, 0, -1, fine}, {-1500000, 6, 0, -2, fine},
		{1499999, 6, 0, 1, fine}, {2500000, 6, 0, 2, fine}, {2500001, 6, 0, 3, fine},
		{145, 2, 0, 1, fine}, {150, 2, 0, 2, fine}, {155, 2, 0, 2, fine}, {250, 2, 0, 2, fine}, {-150, 2, 0, -2, fine}, {-250, 2, 0, -2, fine}, // not by way of 14 or 16
		{449, 3, 1, 4, fine}, {450, 3, 1, 4, fine}, {451, 3, 1, 5, fine},
		{most, 6, 0, 9223372036855, fine}, {least, 6, 0, -9223372036855, fine}, {most, 1, 0, 922337203685477581, fine}, {least, 1, 0, -922337203685477581, fine},
		{922337203685477580, 0, 1, most - 7, fine}, {922337203685477581, 0, 1, 0, over}, {-922337203685477580, 0, 1, least + 8, fine}, {-922337203685477581, 0, 1, 0, over},
		{9223372036854, 0, 6, 9223372036854000000, fine}, {9223372036855, 0, 6, 0, over}, {-9223372036854, 0, 6, -9223372036854000000, fine}, {-9223372036855, 0, 6, 0, over},
		{most, 0, 1, 0, over}, {least, 0, 1, 0, over}, {most, 0, 6, 0, over}, {least, 5, 6, 0, over}, {1 << 62, 1, 2, 0, over},
	} {
		rescaled(t, x.x, x.from, x.to, x.want, x.e)
	}
}

// nearest tells x with other decimals by the distances of both neighbours.
func nearest(x, from, to int) *big.Int {
	product := new(big.Int).Mul(of(x), unit(to))
	below, left := new(big.Int).DivMod(product, unit(from), new(big.Int)) // downward, as the lower number is above 0
	missing := new(big.Int).Sub(unit(from), left)
	if c := left.Cmp(missing); c > 0 || c == 0 && below.Bit(0) == 1 {
		return below.Add(below, of(1))
	}
	return below
}

// P6.3, P6.5: edges, halves and drawn amounts, from all decimals to all, held against whole numbers. (The draw is the same each time.)
func TestRescaleAgainstWholeNumbers(t *testing.T) {
	r := rand.New(rand.NewSource(3))
	l := amounts()
	for range 3000 {
		l = append(l, drawn(r))
	}
	for x := -1000; x <= 1000; x++ {
		l = append(l, x)
	}
	seen := map[api.Errno]int{}
	for _, x := range l {
		for from := range 7 {
			for to := range 7 {
				seen[rescaleAgainstWholeNumbers(t, x, from, to)]++
			}
		}
	}
	if seen[api.OK] < 1000 || seen[api.ErrOver] < 1000 {
		t.Error("the draw leaves one answer out", seen)
	}
}

func rescaleAgainstWholeNumbers(t *testing.T, x, from, to int) api.Errno {
	t.Helper()
	n, e := Rescale(x, from, to)
	want := nearest(x, from, to)
	if !want.IsInt64() {
		rescaled(t, x, from, to, 0, api.ErrOver)
		return e
	}
	rescaled(t, x, from, to, int(want.Int64()), api.OK)
	if m, f := scale.Scale(x, int(unit(to).Int64()), int(unit(from).Int64())); m != n || f != e {
		t.Fatalf("Rescale(%d, %d, %d): %d, %v; scale tells %d, %v", x, from, to, n, e, m, f)
	}
	if to >= from { // P6.5: to more decimals and back
		rescaled(t, n, to, from, x, api.OK)
	}
	offByAHalf(t, x, from, n, to)
	return e
}

// offByAHalf tells a fault, unless n is at most a half of its least unit off from x (P6.5), and not at all with no fewer decimals.
func offByAHalf(t *testing.T, x, from, n, to int) {
	t.Helper()
	before, behind := new(big.Rat).SetFrac(of(x), unit(from)), new(big.Rat).SetFrac(of(n), unit(to))
	off := new(big.Rat).Sub(before, behind)
	half := new(big.Rat).SetFrac(of(1), new(big.Int).Mul(of(2), unit(to)))
	if off.Abs(off).Cmp(half) > 0 || to >= from && off.Sign() != 0 {
		t.Fatalf("%d with %d decimals is %d with %d, which is %v off", x, from, n, to, off)
	}
}

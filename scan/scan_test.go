package scan

import (
	"fmt"
	"math"
	"math/big"
	"math/rand"
	"strconv"
	"strings"
	"testing"

	"gavelkind/api"
	"gavelkind/decimal"
)

const most, least = math.MaxInt, math.MinInt

// noPlaces are numbers that are no places of s; some of them look like one, if bits are cut off or the sign is.
func noPlaces(s string) []int {
	return []int{-1, -2, -len(s) - 1, least, least + 1, len(s) + 1, len(s) + 2, 1<<32 + len(s), 1 << 32, most - 1, most}
}

// edges stand where a number gets a digit more, where signs change, and at the ends of words.
func edges() []int {
	l := []int{least, least + 1, least + 2, least / 2, least / 10, 1<<31 - 1, 1 << 31, 1<<32 - 1, 1 << 32, -1 << 31, -1<<31 - 1, most / 10, most/10 + 1, most / 2, most - 2, most - 1, most}
	for n := 1; n <= most/10; n *= 10 {
		for more := -2; more <= 2; more++ {
			l = append(l, n+more, -n+more, 5*n+more, -5*n+more)
		}
	}
	return append(l, -4, 4, 7, -7, 9, 10, 11, 19, 20, 99, 100, 101, 12345, -12345)
}

// drawn draws edges, and numbers of any length.
func drawn(r *rand.Rand) int {
	if r.Intn(2) == 0 {
		return edges()[r.Intn(len(edges()))]
	}
	return int(r.Uint64()) >> r.Intn(64)
}

// allTexts are all texts of these bytes, up to a length.
func allTexts(bytes string, longest int) []string {
	texts, last := []string{""}, []string{""}
	for range longest {
		var longer []string
		for _, s := range last {
			for i := range len(bytes) {
				longer = append(longer, s+bytes[i:i+1])
			}
		}
		texts, last = append(texts, longer...), longer
	}
	return texts
}

// litOf tells what Lit has to answer, byte by byte.
func litOf(s string, at int, want string) (int, api.Errno) {
	if at < 0 || at > len(s) {
		return 0, api.ErrArg
	}
	for i := range len(want) {
		switch {
		case at+i == len(s):
			return 0, api.ErrShort
		case s[at+i] != want[i]:
			return 0, api.ErrWord
		}
	}
	return at + len(want), api.OK
}

func againstLit(t *testing.T, s string, at int, want string) api.Errno {
	t.Helper()
	next, e := Lit(s, at, want)
	if m, f := litOf(s, at, want); next != m || e != f {
		t.Fatalf("Lit(%.60q, %d, %.60q): %d, %v, not %d, %v", s, at, want, next, e, m, f)
	}
	return e
}

// P7.1: words that stand there, beginnings of them and others, written out.
func TestLit(t *testing.T) {
	for _, x := range []struct {
		s    string
		at   int
		want string
		next int
		e    api.Errno
	}{
		{"", 0, "", 0, api.OK}, {"ab", 0, "", 0, api.OK}, {"ab", 1, "", 1, api.OK}, {"ab", 2, "", 2, api.OK}, // nothing stands at each place
		{"ab", 0, "ab", 2, api.OK}, {"ab", 1, "b", 2, api.OK}, {"xab", 1, "ab", 3, api.OK}, // just to the text's end
		{"abc", 0, "ab", 2, api.OK}, {"abc", 0, "a", 1, api.OK}, {"xabc", 1, "ab", 3, api.OK}, {"abab", 2, "ab", 4, api.OK},
		{"", 0, "a", 0, api.ErrShort}, {"", 0, "ab", 0, api.ErrShort}, {"ab", 2, "a", 0, api.ErrShort}, // nothing stands there
		{"a", 0, "ab", 0, api.ErrShort}, {"xa", 1, "ab", 0, api.ErrShort}, {"ab", 1, "bc", 0, api.ErrShort}, {"aba", 2, "ab", 0, api.ErrShort}, {"post", 0, "post ", 0, api.ErrShort},
		{"ac", 0, "ab", 0, api.ErrWord}, {"acb", 0, "ab", 0, api.ErrWord}, {"posT 1", 0, "post", 0, api.ErrWord}, {"post\n", 0, "post ", 0, api.ErrWord}, // off in the last byte
		{"xb", 0, "ab", 0, api.ErrWord}, {"x", 0, "ab", 0, api.ErrWord}, {"b", 0, "ab", 0, api.ErrWord}, {"ba", 0, "ab", 0, api.ErrWord}, // an ab stands further on, or a b alone
		{"xab", 0, "ab", 0, api.ErrWord}, {"ab", 0, "b", 0, api.ErrWord}, {"abx", 0, "abcd", 0, api.ErrWord}, {"a ", 0, "ab", 0, api.ErrWord},
		{"AB", 0, "ab", 0, api.ErrWord}, {" ab", 0, "ab", 0, api.ErrWord}, {"\u00e4", 0, "a", 0, api.ErrWord},
		{"\x00", 0, "\x00", 1, api.OK}, {"", 0, "\x00", 0, api.ErrShort}, {"\x00", 0, "\x00\x00", 0, api.ErrShort}, {"a\x00", 0, "a", 1, api.OK}, {"a\x00b", 0, "a\x00c", 0, api.ErrWord}, // bytes that are no letters
		{"\n", 0, "\n", 1, api.OK}, {"\r\n", 0, "\n", 0, api.ErrWord}, {"\xff\xfe", 0, "\xff\xfe", 2, api.OK}, {"\xff", 0, "\xff\xfe", 0, api.ErrShort}, {"\xff", 0, "\xfe", 0, api.ErrWord}, {"\x80", 0, "\x00", 0, api.ErrWord},
		{"\u00e4", 0, "\xc3", 1, api.OK}, {"\u00e4", 1, "\xa4", 2, api.OK}, {"\u00e4", 1, "\u00e4", 0, api.ErrWord}, {"\xc3", 0, "\u00e4", 0, api.ErrShort}, {"\xff", 0, "\ufffd", 0, api.ErrWord},
	} {
		if next, e := Lit(x.s, x.at, x.want); next != x.next || e != x.e {
			t.Errorf("Lit(%q, %d, %q): %d, %v", x.s, x.at, x.want, next, e)
		}
	}
}

// P7.1: all short texts and words, at all places.
func TestLitOfAllShortTexts(t *testing.T) {
	seen := map[api.Errno]int{}
	for _, s := range allTexts("ab\xff", 5) {
		for _, want := range allTexts("ab\xff", 3) {
			for at := -2; at <= len(s)+2; at++ {
				seen[againstLit(t, s, at, want)]++
			}
		}
	}
	for _, e := range []api.Errno{api.OK, api.ErrShort, api.ErrWord, api.ErrArg} {
		if seen[e] < 1000 {
			t.Error("one answer is left out", seen)
		}
	}
}

// P7.1: each byte in each place of a word, and long words.
func TestLitOfAllBytes(t *testing.T) {
	const word = "post"
	for b := range 256 {
		for i := range len(word) {
			off := word[:i] + string([]byte{byte(b)}) + word[i+1:]
			for _, s := range []string{off, off[:i+1], off + " ", "x" + off} {
				againstLit(t, s, 0, word)
				againstLit(t, s, 1, word)
				againstLit(t, word, 0, s)
			}
		}
	}
	long := strings.Repeat("ab", 50000)
	for _, want := range []string{long, long[:99999], long + "a", long + "b", long[:99999] + "x", long[:99998] + "xb", "b" + long, long + long} {
		for _, at := range []int{0, 1, 2, 99998, 99999, 100000, 100001} {
			againstLit(t, long, at, want)
		}
	}
}

// numOf tells what Num has to answer, by a whole number of any length, whose numeral is the one that is printed.
func numOf(s string, at, lo, hi int) (int, int, api.Errno) {
	if at < 0 || at > len(s) {
		return 0, 0, api.ErrArg
	}
	end := at
	for end < len(s) && (strings.Contains("0123456789", s[end:end+1]) || end == at && s[end] == '-') {
		end++
	}
	taken := s[at:end]
	x, ok := new(big.Int).SetString(taken, 10)
	switch {
	case end == len(s) && (taken == "" || taken == "-"):
		return 0, 0, api.ErrShort
	case !ok || x.String() != taken:
		return 0, 0, api.ErrForm
	case x.Cmp(big.NewInt(int64(lo))) < 0 || x.Cmp(big.NewInt(int64(hi))) > 0:
		return 0, 0, api.ErrNum
	}
	return int(x.Int64()), end, api.OK
}

func againstNum(t *testing.T, s string, at, lo, hi int) api.Errno {
	t.Helper()
	n, next, e := Num(s, at, lo, hi)
	if m, place, f := numOf(s, at, lo, hi); n != m || next != place || e != f {
		t.Fatalf("Num(%.60q, %d, %d, %d): %d, %d, %v, not %d, %d, %v", s, at, lo, hi, n, next, e, m, place, f)
	}
	return e
}

// P7.2: numerals that are taken, written out, with what stands ahead and behind.
func TestNum(t *testing.T) {
	for _, x := range []struct {
		s       string
		at      int
		n, next int
	}{
		{"0", 0, 0, 1}, {"1", 0, 1, 1}, {"9", 0, 9, 1}, {"-1", 0, -1, 2}, {"-9", 0, -9, 2}, {"10", 0, 10, 2}, {"-10", 0, -10, 3}, {"100", 0, 100, 3}, {"1020304050", 0, 1020304050, 10},
		{"a12,3", 1, 12, 3}, {"a12,3", 2, 2, 3}, {"a12,3", 4, 3, 5}, {"x-12 3", 1, -12, 4}, {"12-3", 2, -3, 4}, {"12-3", 0, 12, 2}, {"1-", 0, 1, 1}, {"--1", 1, -1, 3},
		{"100", 2, 0, 3}, {"10", 1, 0, 2}, {"a0b", 1, 0, 2}, {"0-", 0, 0, 1}, {"0.5", 0, 0, 1}, {"0x10", 0, 0, 1}, {"1e3", 0, 1, 1}, {"1_000", 0, 1, 1}, {"1,000", 0, 1, 1},
		{"5\n", 0, 5, 1}, {"5 ", 0, 5, 1}, {"5\x00", 0, 5, 1}, {"5/", 0, 5, 1}, {"5:", 0, 5, 1}, {"5\xff", 0, 5, 1}, {"5\u0665", 0, 5, 1}, {"5+", 0, 5, 1}, {"-5-5", 0, -5, 2},
		{"9223372036854775807", 0, most, 19}, {"-9223372036854775808", 0, least, 20}, {"9223372036854775806", 0, most - 1, 19}, {"-9223372036854775807", 0, least + 1, 20},
		{"x9223372036854775807x", 1, most, 20}, {"x-9223372036854775808-", 1, least, 21}, {"19223372036854775807", 1, most, 20},
	} {
		for _, r := range [][2]int{{least, most}, {x.n, x.n}, {x.n, most}, {least, x.n}} {
			if n, next, e := Num(x.s, x.at, r[0], r[1]); n != x.n || next != x.next || e != api.OK {
				t.Errorf("Num(%q, %d, %d, %d): %d, %d, %v", x.s, x.at, r[0], r[1], n, next, e)
			}
		}
	}
}

// P7.2: what is no numeral is told whatever lo and hi are, and nothing beside the error.
func TestNoNumeral(t *testing.T) {
	for _, x := range []struct {
		e     api.Errno
		texts []string
	}{
		{api.ErrShort, []string{"", "-"}}, // no digit, and the text ends there
		{api.ErrForm, []string{
			"a", "-a", "-a1", "a1", "--", "--1", "- ", "- 1", "-\n", "-\x00", "+", "+1", "+0", "-+1", "+-1", " ", " 1", "\n", "\n1", "\t1", "\x00", "\x001", ".", ".5", "-.5", ",", "/", ":", "-/", "-:", "_1", "x1", "\xb1", "\xff1", "\x80", "-\xb1",
			"-0", "-0a", "-0 ", "-00", "-01", "-0-", "-0.5", "00", "01", "09", "00a", "01a", "01 ", "000", "0123", "-09", "-0123",
			"09223372036854775807", "-09223372036854775808", "00000000000000000000", "000000000000000000001", "0000000000000000000000000000000", "099999999999999999999999",
			"\u0661", "\uff11", "\u22121", "\u20131", "\u00b2", "-\u0661",
		}},
	} {
		for _, s := range x.texts {
			for _, ahead := range []string{"", "x", "7", "-", "\n", "0"} {
				for _, r := range [][2]int{{least, most}, {0, 0}, {least, least}, {most, most}, {1, 0}, {most, least}} {
					if n, next, e := Num(ahead+s, len(ahead), r[0], r[1]); n != 0 || next != 0 || e != x.e {
						t.Errorf("Num(%q, %d, %d, %d): %d, %d, %v", ahead+s, len(ahead), r[0], r[1], n, next, e)
					}
				}
			}
		}
	}
}

// ranges are the ends of what int holds, one number, those around it, and those with lo above hi.
func ranges(n int) [][2]int {
	l := [][2]int{{least, most}, {0, most}, {least, 0}, {least, least}, {most, most}, {0, 0}, {-1, 1}, {1, 9}, {most, least}, {1, 0}, {1, -1}, {n, n}, {least, n}, {n, most}}
	if n > least {
		l = append(l, [2]int{least, n - 1}, [2]int{n - 1, n - 1}, [2]int{n, n - 1}, [2]int{n - 1, n})
	}
	if n < most {
		l = append(l, [2]int{n + 1, most}, [2]int{n + 1, n + 1}, [2]int{n + 1, n}, [2]int{n, n + 1})
	}
	return l
}

// P7.2: numbers just in lo and hi and just beyond them, written out.
func TestNumInRange(t *testing.T) {
	for _, x := range []struct {
		s      string
		lo, hi int
		e      api.Errno
	}{
		{"5", 5, 5, api.OK}, {"5", 4, 5, api.OK}, {"5", 5, 6, api.OK}, {"5", 0, 4, api.ErrNum}, {"5", 6, 9, api.ErrNum}, {"5", 6, 4, api.ErrNum}, {"5", 5, 4, api.ErrNum}, {"5", 6, 5, api.ErrNum},
		{"-5", -5, -5, api.OK}, {"-5", -6, -5, api.OK}, {"-5", -5, -4, api.OK}, {"-5", -4, 9, api.ErrNum}, {"-5", -9, -6, api.ErrNum}, {"-5", 0, 9, api.ErrNum}, {"-5", 5, 5, api.ErrNum}, {"5", -5, -5, api.ErrNum},
		{"0", 0, 0, api.OK}, {"0", 1, 9, api.ErrNum}, {"0", -9, -1, api.ErrNum}, {"0", 1, -1, api.ErrNum}, {"0", most, least, api.ErrNum}, {"10", 0, 9, api.ErrNum}, {"10", 1, 1, api.ErrNum},
		{"9223372036854775807", most, most, api.OK}, {"9223372036854775806", most, most, api.ErrNum}, {"9223372036854775807", least, most - 1, api.ErrNum}, {"9223372036854775808", least, most, api.ErrNum}, {"9223372036854775808", least, least, api.ErrNum},
		{"-9223372036854775808", least, least, api.OK}, {"-9223372036854775807", least, least, api.ErrNum}, {"-9223372036854775808", least + 1, most, api.ErrNum}, {"-9223372036854775809", least, most, api.ErrNum}, {"-9223372036854775809", most, most, api.ErrNum},
		{"9223372036854775807", most, least, api.ErrNum}, {"-9223372036854775808", most, least, api.ErrNum}, {"-9223372036854775808", most, most, api.ErrNum}, {"9223372036854775807", least, least, api.ErrNum},
		{"18446744073709551615", least, most, api.ErrNum}, {"18446744073709551616", 0, 0, api.ErrNum}, {"18446744073709551617", 1, 1, api.ErrNum}, {"-18446744073709551617", -1, -1, api.ErrNum}, {"-18446744073709551616", least, most, api.ErrNum}, // as if a word wrapped round
	} {
		want := 0
		if x.e == api.OK {
			want, _ = strconv.Atoi(x.s)
		}
		for _, behind := range []string{"", " ", "x", "-", "\n", "\xff"} {
			n, next, e := Num(x.s+behind, 0, x.lo, x.hi)
			if n != want || e != x.e || (next == len(x.s)) != (e == api.OK) || e != api.OK && next != 0 {
				t.Errorf("Num(%q, 0, %d, %d): %d, %d, %v", x.s+behind, x.lo, x.hi, n, next, e)
			}
		}
	}
}

// P7.2: numbers around powers of 2 and of 10, far beyond the range too, which look like one in range if a word wraps round.
func TestNumFarBeyondRange(t *testing.T) {
	var bases []*big.Int
	for n := range 140 {
		for _, of := range []int64{2, 10} {
			bases = append(bases, new(big.Int).Exp(big.NewInt(of), big.NewInt(int64(n)), nil))
		}
	}
	for _, n := range []int64{3, 5, 9, 10, 11, 100} {
		bases = append(bases, new(big.Int).Mul(big.NewInt(n), new(big.Int).Exp(big.NewInt(2), big.NewInt(63), nil)))
	}
	seen := map[api.Errno]int{}
	for _, base := range bases {
		for more := int64(-12); more <= 12; more++ {
			x := new(big.Int).Add(base, big.NewInt(more))
			for _, s := range []string{x.String(), new(big.Int).Neg(x).String()} {
				for _, r := range ranges(int(x.Int64())) { // of one beyond the range: what is left of it if it wraps round
					seen[againstNum(t, s, 0, r[0], r[1])]++
					seen[againstNum(t, "4-"+s+"-", 2, r[0], r[1])]++
				}
			}
		}
	}
	if seen[api.OK] < 1000 || seen[api.ErrNum] < 1000 {
		t.Error("one answer is left out", seen)
	}
}

// P7.2: very many digits are a number beyond each range, unless there is a nought ahead.
func TestNumOfVeryManyDigits(t *testing.T) {
	const many = 100000
	for _, digit := range []string{"1", "5", "9"} {
		long := strings.Repeat(digit, many)
		for _, r := range ranges(0) {
			for _, x := range []struct {
				s string
				e api.Errno
			}{
				{long, api.ErrNum}, {"-" + long, api.ErrNum}, {long + "x", api.ErrNum}, {"-" + long + " ", api.ErrNum}, {digit + strings.Repeat("0", many), api.ErrNum}, {long + "-" + long, api.ErrNum},
				{"0" + long, api.ErrForm}, {"-0" + long, api.ErrForm}, {strings.Repeat("0", many), api.ErrForm}, {"-" + strings.Repeat("0", many), api.ErrForm}, {strings.Repeat("0", many) + digit, api.ErrForm},
				{"--" + long, api.ErrForm}, {"+" + long, api.ErrForm}, {"x" + long, api.ErrForm}, {strings.Repeat("-", many), api.ErrForm},
			} {
				if n, next, e := Num(x.s, 0, r[0], r[1]); n != 0 || next != 0 || e != x.e {
					t.Errorf("Num(%.20q.., 0, %d, %d): %d, %d, %v", x.s, r[0], r[1], n, next, e)
				}
			}
		}
		if n, next, e := Num(long, many-1, 0, 9); next != many || e != api.OK || Digits(n) != digit {
			t.Errorf("the last digit: %d, %d, %v", n, next, e)
		}
		if n, next, e := Num(digit+strings.Repeat("x", many), 0, 0, 9); next != 1 || e != api.OK || Digits(n) != digit {
			t.Errorf("a digit ahead of very many letters: %d, %d, %v", n, next, e)
		}
	}
}

// P7.2: all short texts of the bytes that matter, and each byte at each place of a text.
func TestNumOfAllShortTexts(t *testing.T) {
	seen := map[api.Errno]int{}
	for _, s := range allTexts("-+019 a\xb1", 5) {
		for at := -1; at <= len(s)+1; at++ {
			seen[againstNum(t, s, at, least, most)]++
			seen[againstNum(t, s, at, -9, 10)]++
		}
	}
	for _, e := range []api.Errno{api.OK, api.ErrShort, api.ErrForm, api.ErrNum, api.ErrArg} {
		if seen[e] < 1000 {
			t.Error("one answer is left out", seen)
		}
	}
	for b := range 256 {
		for _, s := range []string{"", "0", "17", "-17", "905", "a5"} {
			for i := range len(s) + 1 {
				put := s[:i] + string([]byte{byte(b)})
				for at := range len(s) + 2 {
					againstNum(t, put+s[i:], at, -1000, 1000)
					againstNum(t, put+s[min(i+1, len(s)):], min(at, len(put)), least, most)
				}
			}
		}
	}
}

// lineOf tells what Line has to answer, byte by byte.
func lineOf(s string, at int) (string, int, api.Errno) {
	if at < 0 || at > len(s) {
		return "", 0, api.ErrArg
	}
	for i := at; i < len(s); i++ {
		if s[i] == 10 {
			return s[at:i], i + 1, api.OK
		}
	}
	return "", 0, api.ErrShort
}

func againstLine(t *testing.T, s string, at int) api.Errno {
	t.Helper()
	line, next, e := Line(s, at)
	if l, m, f := lineOf(s, at); line != l || next != m || e != f {
		t.Fatalf("Line(%.60q, %d): %.60q, %d, %v, not %.60q, %d, %v", s, at, line, next, e, l, m, f)
	}
	return e
}

// P7.3: lines and what has no line feed, written out.
func TestLine(t *testing.T) {
	for _, x := range []struct {
		s    string
		at   int
		line string
		next int
		e    api.Errno
	}{
		{"\n", 0, "", 1, api.OK}, {"\nab", 0, "", 1, api.OK}, {"ab\ncd", 2, "", 3, api.OK}, // a line feed at the place itself
		{"ab\n", 0, "ab", 3, api.OK}, {"ab\n", 1, "b", 3, api.OK}, {"ab\n", 2, "", 3, api.OK}, {"\n\n", 1, "", 2, api.OK}, // at the text's end
		{"", 0, "", 0, api.ErrShort}, {"ab", 0, "", 0, api.ErrShort}, {"ab", 2, "", 0, api.ErrShort}, {"\n", 1, "", 0, api.ErrShort}, {"ab\n", 3, "", 0, api.ErrShort}, {"ab\ncd", 3, "", 0, api.ErrShort}, {"ab\ncd", 5, "", 0, api.ErrShort}, // none
		{"a\n\nb\nc", 0, "a", 2, api.OK}, {"a\n\nb\nc", 1, "", 2, api.OK}, {"a\n\nb\nc", 2, "", 3, api.OK}, {"a\n\nb\nc", 3, "b", 5, api.OK}, {"a\n\nb\nc", 5, "", 0, api.ErrShort}, // several
		{"a\rb\n", 0, "a\rb", 4, api.OK}, {"a\r\nb", 0, "a\r", 3, api.OK}, {"\x00\t\v\f\r\x1b\x7f\x85\n", 0, "\x00\t\v\f\r\x1b\x7f\x85", 9, api.OK}, {"a\rb", 0, "", 0, api.ErrShort}, {"\v\f\r\x85\u2028", 0, "", 0, api.ErrShort}, // other control bytes
		{"\x09\x0b\x8a\n", 0, "\x09\x0b\x8a", 4, api.OK}, {"\x8a\u010a\u0a0a", 0, "", 0, api.ErrShort}, // bytes that are one bit, or a word's half, off from a line feed
		{"\xff\xfe\n", 0, "\xff\xfe", 3, api.OK}, {"\u00e4\n", 1, "\xa4", 3, api.OK}, {" a \n", 0, " a ", 4, api.OK}, {"\\n", 0, "", 0, api.ErrShort},
	} {
		if line, next, e := Line(x.s, x.at); line != x.line || next != x.next || e != x.e {
			t.Errorf("Line(%q, %d): %q, %d, %v", x.s, x.at, line, next, e)
		}
	}
}

// P7.3: all short texts, all bytes, and long lines, at all places.
func TestLineOfAllTexts(t *testing.T) {
	seen := map[api.Errno]int{}
	texts := allTexts("a\n\r", 8)
	for b := range 256 {
		one := string([]byte{byte(b)})
		texts = append(texts, one, one+"\n", "a"+one+"\n", "\n"+one, one+"a"+one)
	}
	for _, s := range texts {
		for at := -2; at <= len(s)+2; at++ {
			seen[againstLine(t, s, at)]++
		}
	}
	for _, e := range []api.Errno{api.OK, api.ErrShort, api.ErrArg} {
		if seen[e] < 1000 {
			t.Error("one answer is left out", seen)
		}
	}
	long := strings.Repeat("ab\x00\r", 25000)
	for _, s := range []string{long, long + "\n", "\n" + long, long + "\n" + long, long + "\n\n" + long + "\n"} {
		for _, at := range []int{0, 1, 99999, 100000, 100001, 100002, len(s) - 1, len(s)} {
			againstLine(t, s, at)
		}
	}
}

// P7.1 to P7.3: what is no place is told ahead of all else, with nothing beside the error; each place is one.
func TestPlaces(t *testing.T) {
	for _, s := range []string{"", "a", "1", "-", "-1", "\n", "12\n", "post 1\n", strings.Repeat("1", 300), strings.Repeat("\n", 300)} {
		for _, at := range noPlaces(s) {
			for _, want := range []string{"", "a", "1", "post ", s, s + s} {
				if next, e := Lit(s, at, want); next != 0 || e != api.ErrArg {
					t.Errorf("Lit(%.20q, %d, %.20q): %d, %v", s, at, want, next, e)
				}
			}
			for _, r := range ranges(0) {
				if n, next, e := Num(s, at, r[0], r[1]); n != 0 || next != 0 || e != api.ErrArg {
					t.Errorf("Num(%.20q, %d, %d, %d): %d, %d, %v", s, at, r[0], r[1], n, next, e)
				}
			}
			if line, next, e := Line(s, at); line != "" || next != 0 || e != api.ErrArg {
				t.Errorf("Line(%.20q, %d): %q, %d, %v", s, at, line, next, e)
			}
		}
		for at := range len(s) + 1 {
			againstLit(t, s, at, "")
			againstLit(t, s, at, "1")
			againstNum(t, s, at, least, most)
			againstLine(t, s, at)
		}
	}
}

// P7.4: numerals, written out.
func TestDigits(t *testing.T) {
	for _, x := range []struct {
		n int
		s string
	}{
		{0, "0"}, {1, "1"}, {-1, "-1"}, {9, "9"}, {-9, "-9"}, {10, "10"}, {-10, "-10"}, {11, "11"}, {99, "99"}, {100, "100"}, {101, "101"}, {-100, "-100"},
		{127, "127"}, {128, "128"}, {255, "255"}, {256, "256"}, {65536, "65536"}, {1000000, "1000000"}, {1234567890, "1234567890"}, {-1020304050, "-1020304050"},
		{1<<31 - 1, "2147483647"}, {1 << 31, "2147483648"}, {-1 << 31, "-2147483648"}, {1 << 32, "4294967296"},
		{most, "9223372036854775807"}, {most - 1, "9223372036854775806"}, {least, "-9223372036854775808"}, {least + 1, "-9223372036854775807"},
	} {
		if s := Digits(x.n); s != x.s {
			t.Errorf("Digits(%d): %q", x.n, s)
		}
	}
}

// P7.4, P7.5: edges and drawn numbers, held against numerals told otherwise, and back of them, whatever stands ahead and behind. (The draw is the same each time.)
func TestNumbersComeBack(t *testing.T) {
	r := rand.New(rand.NewSource(1))
	l := edges()
	for n := -1100; n <= 1100; n++ {
		l = append(l, n)
	}
	for range 20000 {
		l = append(l, drawn(r))
	}
	for _, n := range l {
		s := Digits(n)
		if want := fmt.Sprint(n); s != want {
			t.Fatalf("Digits(%d): %q", n, s)
		}
		if plain, _ := decimal.Print(n, 0); s != plain { // as layer 6 prints an amount without decimals
			t.Fatalf("Digits(%d): %q; decimal prints %q", n, s, plain)
		}
		for _, ahead := range []string{"", "0", "-", "x "} {
			for _, behind := range []string{"", " ", "-", "-1", "x", "\n", ".5", "/", ":", "\x00", "\xb1"} {
				comesBack(t, ahead, n, behind)
			}
		}
		comesBack(t, "", n, string([]byte{byte(n)})) // whatever byte that is, if it is no digit
	}
}

func comesBack(t *testing.T, ahead string, n int, behind string) {
	t.Helper()
	if behind != "" && behind[0] >= '0' && behind[0] <= '9' {
		return
	}
	s := ahead + Digits(n) + behind
	for _, r := range [][2]int{{least, most}, {n, n}} {
		if m, next, e := Num(s, len(ahead), r[0], r[1]); m != n || next != len(s)-len(behind) || e != api.OK {
			t.Fatalf("Num(%q, %d, %d, %d): %d, %d, %v", s, len(ahead), r[0], r[1], m, next, e)
		}
	}
}

// P7.2, P7.5: texts that are drawn, most of them a byte off from numerals; what is taken is the numeral of its number. (The draw is the same each time.)
func TestDrawnNumerals(t *testing.T) {
	r := rand.New(rand.NewSource(2))
	seen := map[api.Errno]int{}
	for range 60000 {
		x := new(big.Int).SetInt64(int64(drawn(r)))
		if r.Intn(3) == 0 {
			x.Add(x, new(big.Int).Lsh(big.NewInt(int64(r.Intn(7)-3)), uint(60+r.Intn(10))))
		}
		s := x.String()
		switch i := r.Intn(len(s) + 1); r.Intn(5) {
		case 0:
			s = s[:i] + s[min(i+1, len(s)):]
		case 1:
			i /= 1 + r.Intn(5) // oftener near the beginning, where a byte tells most
			s = s[:i] + string("0123456789-. +"[r.Intn(14)]) + s[i:]
		}
		at, lo, hi := r.Intn(min(3, len(s)+1)), drawn(r), drawn(r)
		if r.Intn(2) == 0 {
			lo, hi = least, most
		}
		seen[againstNum(t, s, at, lo, hi)]++
		if n, next, e := Num(s, at, least, most); e == api.OK && s[at:next] != Digits(n) {
			t.Fatalf("Num(%q, %d): %d, of %q", s, at, n, s[at:next])
		}
	}
	if seen[api.OK] < 1000 || seen[api.ErrForm] < 1000 || seen[api.ErrNum] < 1000 {
		t.Error("the draw leaves one answer out", seen)
	}
}

// P7.6: a text's lines, each with its line feed, and what has none, are the text. (The draw is the same each time.)
func TestLinesAreTheText(t *testing.T) {
	r := rand.New(rand.NewSource(3))
	texts := append(allTexts("a\n", 10), "\r\n\r\n", "a\r", "\xff\n\xfe", strings.Repeat("\n", 5000), strings.Repeat("ab\n\x00", 5000))
	for range 3000 {
		b := make([]byte, r.Intn(60))
		for i := range b {
			b[i] = byte(r.Intn(256))
			if r.Intn(5) == 0 {
				b[i] = '\n'
			}
		}
		texts = append(texts, string(b))
	}
	for _, s := range texts {
		var all strings.Builder
		at, lines := 0, 0
		for {
			line, next, e := Line(s, at)
			if e != api.OK {
				if e != api.ErrShort || line != "" || next != 0 {
					t.Fatalf("Line(%.60q, %d): %q, %d, %v", s, at, line, next, e)
				}
				break
			}
			if strings.Contains(line, "\n") || next <= at {
				t.Fatalf("Line(%.60q, %d): %q, %d", s, at, line, next)
			}
			all.WriteString(line + "\n")
			at, lines = next, lines+1
		}
		if all.String()+s[at:] != s || strings.Contains(s[at:], "\n") || lines != strings.Count(s, "\n") {
			t.Fatalf("%.60q has %d lines, and %.60q without a line feed", s, lines, s[at:])
		}
	}
}

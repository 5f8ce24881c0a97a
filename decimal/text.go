package decimal

import (
	"math"
	"strconv"
	"strings"

	"gavelkind/api"
)

// mostDigits is how many decimals an amount has at most.
const mostDigits = 6

// beyond stands for every size that is out of range on both sides of 0.
const beyond = math.MaxUint64

func mayBe(digits int) bool { return digits >= 0 && digits <= mostDigits }

// whole tells how many least units make one whole.
func whole(digits int) int {
	n := 1
	for range digits {
		n *= 10
	}
	return n
}

func printed(x, digits int) string {
	sign, size := "", uint64(x)
	if x < 0 {
		sign, size = "-", -size // the least number has no opposite in range, but a size
	}
	numeral := strconv.FormatUint(size, 10)
	noughts := strings.Repeat("0", max(0, digits+1-len(numeral)))
	return string(pointed([]byte(sign+noughts+numeral), digits))
}

// pointed puts a point ahead of the last digits, as many as there are decimals.
func pointed(all []byte, digits int) []byte {
	if digits == 0 {
		return all
	}
	ahead := len(all) - digits
	// The slice ahead of the point is a full one, so that the point goes to new memory, not over the digits that are to follow it.
	return append(append(all[:ahead:ahead], '.'), all[ahead:]...)
}

// parted parts what stands ahead of the point from the decimals, and tells whether there are as many of these as there must be.
func parted(s string, digits int) (wholes, decimals string, ok bool) {
	if digits == 0 {
		return s, "", true
	}
	wholes, decimals, ok = strings.Cut(s, ".")
	return wholes, decimals, ok && len(decimals) == digits
}

// taken tells the number of the digits with which a text begins, and what stands behind them.
func taken(s string) (n uint64, rest string) {
	at := 0
digits:
	for ; at < len(s); at++ {
		switch d := s[at]; {
		case d < '0' || d > '9':
			break digits
		case n > math.MaxInt/10: // out of range for good; what follows is looked at all the same, as a wrong form is told first
			n = beyond
		default:
			n = n*10 + uint64(d-'0')
		}
	}
	return n, s[at:]
}

// signed tells the number of a size on its side of 0, of which the one below 0 reaches one further.
func signed(size uint64, minus bool) (int, api.Errno) {
	switch {
	case minus && size <= math.MaxInt+1:
		return int(-size), api.OK
	case !minus && size <= math.MaxInt:
		return int(size), api.OK
	}
	return 0, api.ErrOver
}

package num

import (
	"math/bits"

	"gavelkind/api"
)

// words is a number of two words, the lower one first, with its sign in the upper one's top bit. One word would do no longer where a sum leaves the range and comes back; two do for more numbers than memory holds.
type words [2]uint64

func widen(n int) words {
	return words{uint64(n), uint64(n >> 63)}
}

func (w words) plus(v words) words {
	lower, carry := bits.Add64(w[0], v[0], 0)
	upper, _ := bits.Add64(w[1], v[1], carry)
	return words{lower, upper}
}

// opposite is made of two words, as the least number has no opposite in one.
func (w words) opposite() words {
	return words{^w[0], ^w[1]}.plus(words{1, 0})
}

func (w words) narrow() (int, api.Errno) {
	n := int(w[0])
	if widen(n) != w {
		return 0, api.ErrOver
	}
	return n, api.OK
}

// total adds what tell tells for 0, 1 and so on, count times; only what comes in the end must be in range.
func total(count int, tell func(i int) words) (int, api.Errno) {
	var sum words
	for i := range count {
		sum = sum.plus(tell(i))
	}
	return sum.narrow()
}

package scale

import (
	"math/bits"

	"gavelkind/api"
	"gavelkind/wide"
)

// divided divides the words of a wide number one behind the other, the upper one first. Ahead of them stands the word of the sign: 0, by which nothing is left, or -1, which is -1 times the divisor with all but 1 of it left; so the quotient comes with its sign, downward on either side of 0.
func divided(w api.Wide, by uint64) (upper, lower, left uint64) {
	words := [2]uint64{uint64(w.Hi), w.Lo}
	if w.Hi < 0 {
		left = by - 1
	}
	at := 0
division:
	for {
		switch {
		case at == len(words):
			break division
		case left == 0 && words[at] < by: // of small numbers the upper word is not worth a division
			words[at], left = 0, words[at]
		default:
			words[at], left = bits.Div64(left, words[at], by)
		}
		at++
	}
	return words[0], words[1], left
}

// rounded tells the quotient as a number, or the one above it, where above says that this is nearer. It may say so only where something is left.
func rounded(w api.Wide, d int, above func(q api.Wide, left int) bool) (int, api.Errno) {
	q, left, e := Quo(w, d)
	if e != api.OK {
		return 0, e
	}
	if above(q, left) {
		q, _ = wide.Add(q, wide.Of(1)) // where something is left, d is at least 2, so that q has room
	}
	return wide.Int(q)
}

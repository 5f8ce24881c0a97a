// Package num is layer 1: see shared/doc/01-num.md.
package num

import (
	"cmp"

	"gavelkind/api"
)

// Add adds.
func Add(a, b int) (int, api.Errno) {
	c := a + b
	if (c < a) != (b < 0) { // it has wrapped round
		return 0, api.ErrOver
	}
	return c, api.OK
}

// Sub subtracts.
func Sub(a, b int) (int, api.Errno) {
	c := a - b
	if (c > a) != (b < 0) { // it has wrapped round
		return 0, api.ErrOver
	}
	return c, api.OK
}

// Neg tells the opposite.
func Neg(a int) (int, api.Errno) { return Sub(0, a) }

// Abs tells how far a number is from 0.
func Abs(a int) (int, api.Errno) {
	if a < 0 {
		return Neg(a)
	}
	return a, api.OK
}

// Cmp holds two numbers against each other.
func Cmp(a, b int) int { return cmp.Compare(a, b) }

// Sum adds all.
func Sum(l []int) (int, api.Errno) {
	return total(len(l), func(i int) words { return widen(l[i]) })
}

// Net tells a sum less another one.
func Net(plus, minus []int) (int, api.Errno) {
	return total(len(plus)+len(minus), func(i int) words {
		if i < len(plus) {
			return widen(plus[i])
		}
		return widen(minus[i-len(plus)]).opposite()
	})
}

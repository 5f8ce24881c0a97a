package ratio

import (
	"gavelkind/api"
	"gavelkind/wide"
)

// mayBe tells whether a number may be one of a rate's.
func mayBe(n int) bool { return n >= 1 && n <= api.MaxRatio }

// lowest tells the lowest terms of numbers that may be.
func lowest(num, den int) api.Ratio {
	by := divisor(num, den)
	return api.Ratio{Num: num / by, Den: den / by}
}

// divisor tells the greatest common divisor of numbers above 0.
func divisor(a, b int) int {
	for b != 0 {
		a, b = b, a%b
	}
	return a
}

// factors are two numbers of rates.
type factors [2]int

// product is a wide number, as two numbers of 10^12 make one beyond the range of int.
func (f factors) product() api.Wide { return wide.Mul(f[0], f[1]) }

// below tells whether a product is less than another one.
func below(product, other func() api.Wide) bool {
	return wide.Cmp(product(), other()) < 0
}

// made tells the rate of two products that are in lowest terms.
func made(num, den func() api.Wide) (api.Ratio, api.Errno) {
	n, e := bounded(num)
	if e != api.OK {
		return api.Ratio{}, e
	}
	d, e := bounded(den)
	if e != api.OK {
		return api.Ratio{}, e
	}
	return api.Ratio{Num: n, Den: d}, api.OK
}

// bounded tells a product as a number, if it may be one of a rate's.
func bounded(product func() api.Wide) (int, api.Errno) {
	n, e := wide.Int(product())
	if e != api.OK || n > api.MaxRatio {
		return 0, api.ErrOver
	}
	return n, api.OK
}

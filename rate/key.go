package rate

import (
	"slices"

	"gavelkind/api"
	"gavelkind/ratio"
)

const none = 0 // a number in place of one that plays no part

// key tells a rate without its Ratio, so that keys are held against each other as a whole.
func key(r api.Rate) api.Rate {
	r.Ratio = api.Ratio{}
	return r
}

// between tells the key of k with other currencies.
func between(k api.Rate, from, to int) api.Rate {
	k.From, k.To = from, to
	return key(k)
}

// anyWay tells the key of k, of which the currencies play no part.
func anyWay(k api.Rate) api.Rate { return between(k, none, none) }

// anyTime tells the key of k, of which the Period plays no part.
func anyTime(k api.Rate) api.Rate {
	k.Period = none
	return key(k)
}

// alike tells the rates of which as much is the same as part leaves of the key of k, in their order.
func alike(l []api.Rate, k api.Rate, part func(r api.Rate) api.Rate) []api.Rate {
	var are []api.Rate
	for _, r := range l {
		if part(r) == part(k) {
			are = append(are, r)
		}
	}
	return are
}

// last tells the place of the last rate with the key of k, or -1.
func last(l []api.Rate, k api.Rate) int {
	for at, r := range slices.Backward(l) {
		if key(r) == key(k) {
			return at
		}
	}
	return -1
}

// wrong tells what is wrong with a rate by itself.
func wrong(r api.Rate) api.Errno {
	switch {
	case !isCurrency(r.From) || !isCurrency(r.To) || r.From == r.To:
		return api.ErrCurrency
	case r.Kind < api.Closing || r.Kind > api.Historical:
		return api.ErrKind
	case r.Period < 0 || r.Period >= api.MaxPeriods:
		return api.ErrPeriod
	}
	return ratio.Check(r.Ratio)
}

func isCurrency(c int) bool { return c >= 1 && c <= api.MaxCurrencies }

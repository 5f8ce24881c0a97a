package wide

import (
	"math/bits"

	"gavelkind/api"
)

// number is a wide number whose sums and opposites wrap round: those who ask for them tell whether that was so.
type number api.Wide

func (w number) plus(v number) number {
	lower, carry := bits.Add64(w.Lo, v.Lo, 0)
	upper, _ := bits.Add64(uint64(w.Hi), uint64(v.Hi), carry)
	return number{Hi: int64(upper), Lo: lower}
}

func (w number) less(v number) number {
	lower, borrow := bits.Sub64(w.Lo, v.Lo, 0)
	upper, _ := bits.Sub64(uint64(w.Hi), uint64(v.Hi), borrow)
	return number{Hi: int64(upper), Lo: lower}
}

func (w number) itself() number { return w }

func (w number) opposite() number { return number{}.less(w) }

// turning tells what takes the sign off a number, and puts it back.
func turning(below bool) func(number) number {
	if below {
		return number.opposite
	}
	return number.itself
}

// size tells how far a number is from 0; as a word without a sign, as the least number is too far for int.
func size(n int) uint64 {
	turn := turning(n < 0)
	return turn(number(Of(n))).Lo
}

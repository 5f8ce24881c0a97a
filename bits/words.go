package bits

import (
	"math/bits"

	"gavelkind/api"
)

const wordBits = 64

func bit(n int) uint64 { return 1 << (n % wordBits) }

func mayBe(n int) bool { return n >= 0 && n < Most }

func (s *Set) isMade() bool { return s != nil && s.words != nil }

// row tells a set's own words, and none of a set that New did not make: where words are gone through, such a set is an empty one.
func (s *Set) row() []uint64 {
	if s == nil {
		return nil
	}
	return s.words
}

// turn takes a number out that is to be there, or puts one in that is not.
func (s *Set) turn(n int, there bool) api.Errno {
	switch {
	case !s.isMade():
		return api.ErrNil
	case !mayBe(n):
		return api.ErrArg
	case s.Has(n) != there:
		return api.ErrTwice
	}
	s.words[n/wordBits] ^= bit(n)
	return api.OK
}

// remake makes each word anew of those of both sets, and tells how many numbers came or went by that.
func (s *Set) remake(t *Set, of func(mine, other uint64) uint64) int {
	if !t.isMade() {
		t = New()
	}
	changed := 0
	for i, mine := range s.row() {
		s.words[i] = of(mine, t.words[i])
		changed += bits.OnesCount64(mine ^ s.words[i])
	}
	return changed
}

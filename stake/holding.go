package stake

import "gavelkind/api"

// holding is stakes, those of each entity in their order by themselves: whoever follows who holds whom goes through no others.
type holding map[int][]api.Stake

// put puts a stake behind the others.
func (h holding) put(s api.Stake) { h[s.Entity] = append(h[s.Entity], s) }

// next puts a stake behind the others, or tells what is wrong with it: then no more may be put there.
func (h holding) next(s api.Stake, n int) api.Errno {
	if e := wrong(s, n); e != api.OK {
		return e
	}
	h.put(s)
	if h.goesRound(s.Entity) {
		return api.ErrCircle
	}
	return api.OK
}

// wrong tells what is wrong with a stake by itself.
func wrong(s api.Stake, n int) api.Errno {
	switch {
	case s.Entity < 1 || s.Entity > n || s.Parent < 0 || s.Parent > n:
		return api.ErrEntity
	case s.Share < 0 || s.Share > api.MaxShare || s.Parent == 0 && s.Share != api.MaxShare:
		return api.ErrShare
	case s.From < 0 || s.From >= api.MaxPeriods:
		return api.ErrPeriod
	}
	return api.OK
}

// goesRound tells whether an entity comes back to itself by who holds it, in some period.
func (h holding) goesRound(entity int) bool {
periods:
	for period := range api.MaxPeriods {
		above := entity
		for range len(h) { // a way back takes no more steps than there are entities with stakes; others may go round above it for ever
			above, _ = At(h[above], above, period)
			switch above {
			case 0:
				continue periods
			case entity:
				return true
			}
		}
	}
	return false
}

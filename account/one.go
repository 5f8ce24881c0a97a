package account

import (
	"slices"

	"gavelkind/api"
)

// one is an account, to be asked by itself what is wrong with it among so many.
type one api.Account

func (x one) strays(many int) bool { return x.Parent < none || x.Parent > many }

func (x one) isUnderOwn(int) bool { return isOwn(x.Parent) }

func (x one) isOdd(int) bool {
	return x.Kind < api.Closing || x.Kind > api.Historical || x.Split && x.Partner
}

// wrong tells what is wrong with an account by itself, among so many.
func wrong(x api.Account, many int) api.Errno {
	for _, fault := range []struct {
		is func(x one, many int) bool
		e  api.Errno
	}{
		{one.strays, api.ErrAccount},
		{one.isUnderOwn, api.ErrOwn},
		{one.isOdd, api.ErrKind},
	} {
		if fault.is(one(x), many) {
			return fault.e
		}
	}
	return api.OK
}

// isOwn tells whether a number is that of one of the cube's own accounts.
func isOwn(a int) bool { return a >= api.Plug && a <= api.Difference }

// beginsOwn tells whether the first accounts are the cube's own ones.
func beginsOwn(l []api.Account) bool {
	own := New()
	return len(l) >= len(own) && slices.Equal(l[:len(own)], own)
}

package entry

import "gavelkind/api"

const none = 0 // the Partner of a line without one

// fault is something that may be wrong with a line, and the error that says so.
type fault struct {
	is func(line api.Line) bool
	e  api.Errno
}

// faults tells what may be wrong with a line, of so many entities and accounts: what is to be told first stands first.
func faults(entities, accounts int) []fault {
	isEntity, isAccount := upTo(entities), upTo(accounts)
	return []fault{
		{func(line api.Line) bool { return !isEntity(line.Entity) }, api.ErrEntity},
		{func(line api.Line) bool { return !isAccount(line.Account) }, api.ErrAccount},
		{func(line api.Line) bool { return line.Partner != none && !isEntity(line.Partner) }, api.ErrPartner},
		{func(line api.Line) bool { return line.Partner == line.Entity }, api.ErrPartner},
		{func(line api.Line) bool { return line.Amount == 0 }, api.ErrZero},
	}
}

// upTo makes what tells whether a number is one of so many, which are numbered from 1 on.
func upTo(many int) func(n int) bool {
	return func(n int) bool { return n >= 1 && n <= many }
}

// wrong tells the error of the first of these faults that a line has.
func wrong(line api.Line, row []fault) api.Errno {
	for _, f := range row {
		if f.is(line) {
			return f.e
		}
	}
	return api.OK
}

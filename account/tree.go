package account

import "gavelkind/api"

// isOne tells whether a number is an account.
func isOne(l []api.Account, a int) bool { return a >= 1 && a <= len(l) }

// parent tells the Parent of an account: any number, if accounts may not be.
func parent(l []api.Account, a int) int { return l[a-1].Parent }

// those tells the accounts that are something, rising.
func those(l []api.Account, are func(a int) bool) []int {
	var gathered []int
	for a := 1; isOne(l, a); a++ {
		if are(a) {
			gathered = append(gathered, a)
		}
	}
	return gathered
}

// comesBack tells whether an account comes back to itself by its Parents.
func comesBack(l []api.Account, a int) bool {
	line := append([]int{a}, Up(l, a)...)
	return parent(l, line[len(line)-1]) == a // Up ends ahead of one that is a
}

// families tells, for none and for each account, those whose Parent it is, rising, so that not all are gone through for each one.
func families(l []api.Account) [][]int {
	children := make([][]int, len(l)+1)
	for at, x := range l {
		if x.Parent == none || isOne(l, x.Parent) {
			children[x.Parent] = append(children[x.Parent], at+1)
		}
	}
	return children
}

// below tells of each account whether it is a, or comes to a by its Parents.
func below(children [][]int, a int) []bool {
	is := make([]bool, len(children))
	for waiting := []int{a}; len(waiting) > 0; {
		last := len(waiting) - 1
		next := waiting[last]
		waiting = waiting[:last]
		if !is[next] { // accounts may come back to themselves
			is[next] = true
			waiting = append(waiting, children[next]...)
		}
	}
	return is
}

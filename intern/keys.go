package intern

func (t *Table[K]) isMade() bool { return t != nil && t.most > 0 }

// isFound tells whether a key that is put is found again: only if it is the same as itself. A NaN is not, and what an interface holds may be of a type that has no sameness: a map panics of it.
func isFound[K comparable](k K) (found bool) {
	defer func() {
		if recover() != nil {
			found = false
		}
	}()
	itself := k
	return k == itself
}

// put gives a key that is not there the next number.
func (t *Table[K]) put(k K) int {
	n := len(t.keys)
	t.keys = append(t.keys, k)
	if isFound(k) { // another one would stay in the map for ever: delete doesn't find it either
		t.numbers[k] = n
	}
	return n
}

// drop takes the last keys out of the map, and empties their places: what they lead to is not to be held by the list's spare room.
func (t *Table[K]) drop(last []K) {
	for _, k := range last {
		if isFound(k) {
			delete(t.numbers, k)
		}
	}
	clear(last)
}

package undo

import "gavelkind/api"

// beginning is what a book had when it began, as far as that was changed since.
type beginning[K comparable, V any] struct {
	keys map[K]had[V] // of each key that was changed, however often: one that was not has what it had
	lost int
}

// had is the value that a key had, if it had one.
type had[V any] struct {
	value V
	is    bool
}

func (b *Book[K, V]) isMade() bool { return b != nil && b.values != nil }

// isFound tells whether a key that is set is found again: only if it is the same as itself. A NaN is not, and what an interface holds may be of a type that has no sameness: a map panics of it.
func isFound[K comparable](k K) (found bool) {
	defer func() {
		if recover() != nil {
			found = false
		}
	}()
	itself := k
	return k == itself
}

// changed tells what is known of the last beginning that is open; nil, if there is none, and then nothing has to be known.
func (b *Book[K, V]) changed() map[K]had[V] {
	if len(b.open) == 0 {
		return nil
	}
	return b.open[len(b.open)-1].keys
}

// note lays down what a key has ahead of a change, unless it was changed since the last beginning already.
func (b *Book[K, V]) note(k K) {
	changed := b.changed()
	if _, known := changed[k]; changed == nil || known {
		return
	}
	v, has := b.values[k]
	changed[k] = had[V]{v, has}
}

// settle forgets a key that has no value and had none at the last beginning: nothing is to be taken back, and else keys that come and go would be known for ever.
func (b *Book[K, V]) settle(k K) {
	_, has := b.values[k]
	if changed := b.changed(); !has && !changed[k].is {
		delete(changed, k)
	}
}

// end closes the last beginning that is open, and tells it.
func (b *Book[K, V]) end() (beginning[K, V], api.Errno) {
	var none beginning[K, V]
	at := b.Depth() - 1
	switch {
	case !b.isMade():
		return none, api.ErrNil
	case at < 0:
		return none, api.ErrArg
	}
	last := b.open[at]
	b.open[at] = none // what it leads to is not to be held by the list's spare room
	b.open = b.open[:at]
	return last, api.OK
}

// pass lets the beginning around one that is kept know what was changed: what a key had there, if that is not known yet, is what it had here.
func (b *Book[K, V]) pass(kept beginning[K, V]) {
	around := b.changed()
	if around == nil {
		return
	}
	for k, h := range kept.keys {
		if _, known := around[k]; !known {
			around[k] = h
		}
		b.settle(k)
	}
}

// restore gives all keys what they had at a beginning.
func (b *Book[K, V]) restore(begun beginning[K, V]) {
	for k, h := range begun.keys {
		if h.is {
			b.values[k] = h.value
		} else {
			delete(b.values, k)
		}
	}
	b.lost = begun.lost
}

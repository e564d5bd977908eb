package model

import (
	"slices"

	"bookend/api"
)

// A table is what its handles name: the index 1 is the slot 0. It has at most most slots.
type table[T any] struct {
	most  int
	slots []slot[T]
}

// A slot is how often its index was given, whether it is held now, and what it names then.
type slot[T any] struct {
	gen  int
	held bool
	what T
}

// give returns a new handle, which names what.
func (t *table[T]) give(what T) (api.Handle, api.Errno) {
	at := slices.IndexFunc(t.slots, func(s slot[T]) bool { return !s.held })
	if at < 0 {
		if len(t.slots) == t.most {
			return api.Handle{}, api.ErrFull
		}
		at = len(t.slots)
		t.slots = append(t.slots, slot[T]{})
	}
	gen := t.slots[at].gen + 1
	t.slots[at] = slot[T]{gen: gen, held: true, what: what}
	return api.Handle{Index: at + 1, Gen: gen}, api.OK
}

// look returns what the handle names.
func (t *table[T]) look(h api.Handle) (T, api.Errno) {
	if e := t.check(h); e != api.OK {
		var none T
		return none, e
	}
	return t.slots[h.Index-1].what, api.OK
}

// drop lets the handle go, and forgets what it has named.
func (t *table[T]) drop(h api.Handle) api.Errno {
	if e := t.check(h); e != api.OK {
		return e
	}
	t.slots[h.Index-1] = slot[T]{gen: h.Gen}
	return api.OK
}

// check returns OK if the handle is held.
func (t *table[T]) check(h api.Handle) api.Errno {
	if h.Index < 1 || h.Index > len(t.slots) {
		return api.ErrNone
	}
	s := t.slots[h.Index-1]
	switch {
	case h.Gen < 1 || h.Gen > s.gen:
		return api.ErrNone
	case h.Gen < s.gen || !s.held:
		return api.ErrStale
	}
	return api.OK
}

// live returns the handles that are held, by index.
func (t *table[T]) live() []api.Handle {
	var l []api.Handle
	for i, s := range t.slots {
		if s.held {
			l = append(l, api.Handle{Index: i + 1, Gen: s.gen})
		}
	}
	return l
}

package model

import "bookend/api"

// A walk is pairs, and a place between them: how many there are before it.
type walk struct {
	pairs []api.Pair
	at    int
}

// A move returns the pair that it has passed, and whether there was one.
type move func() (api.Pair, bool)

// next moves the place after the next pair.
func (w *walk) next() (api.Pair, bool) {
	if w.at == len(w.pairs) {
		return api.Pair{}, false
	}
	w.at++
	return w.pairs[w.at-1], true
}

// prev moves the place before the previous pair.
func (w *walk) prev() (api.Pair, bool) {
	if w.at == 0 {
		return api.Pair{}, false
	}
	w.at--
	return w.pairs[w.at], true
}

// passed returns what a move of a cursor returns.
func passed(m move) (api.Pair, api.Errno) {
	p, ok := m()
	if !ok {
		return api.Pair{}, api.ErrEnd
	}
	return p, api.OK
}

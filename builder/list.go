package builder

import (
	"bookend/api"
	"bookend/entries"
	"bookend/keys"
)

// A list is ascending entries, of which there are at most most.
type list struct {
	most int
	// Entries that were added are never changed. So a list and its forks may share them.
	all []api.Entry
}

// add adds an entry behind the others.
func (l *list) add(x api.Entry) api.Errno {
	if e := entries.Check(x); e != api.OK {
		return e
	}
	if last, ok := l.last(); ok && !above(x.Key, last.Key) {
		return api.ErrForm
	}
	if l.room() == 0 {
		return api.ErrFull
	}
	l.all = append(l.all, x)
	return api.OK
}

// room returns how many more entries there may be.
func (l *list) room() int {
	return l.most - len(l.all)
}

// last returns the last entry, and whether there is one.
func (l *list) last() (api.Entry, bool) {
	n := len(l.all)
	if n == 0 {
		return api.Entry{}, false
	}
	return l.all[n-1], true
}

// shared returns a list of the same entries, in the same memory. What is added to it goes elsewhere, because there its memory ends; what is added to l may go behind them.
func (l *list) shared() list {
	n := len(l.all)
	return list{most: l.most, all: l.all[:n:n]}
}

// above reports whether the key a is greater than the key b.
func above(a, b string) bool {
	// Both were checked, so there is no error.
	n, _ := keys.Compare(a, b)
	return n > 0
}

package shadow

import (
	"bookend/api"
	"bookend/entries"
)

// A fate is what becomes of an entry that comes.
type fate interface {
	entry() api.Entry
}

// A coming is an entry that comes; each fate has one.
type coming struct{ x api.Entry }

func (c coming) entry() api.Entry { return c.x }

// The fates.
type (
	keptEntry     struct{ coming }
	shadowedEntry struct{ coming }
	droppedEntry  struct{ coming }
)

// next returns what becomes of x, and the state in which it was the last entry.
func next(s api.ShState, x api.Entry) (f fate, t api.ShState, e api.Errno) {
	if e := checkNext(s, x); e != api.OK {
		return nil, api.ShState{}, e
	}
	return fateOf(s, x), api.ShState{Some: true, Last: x.Key, Bottom: s.Bottom}, api.OK
}

// checkNext returns OK if x may come in the state s.
func checkNext(s api.ShState, x api.Entry) api.Errno {
	if e := Check(s); e != api.OK {
		return e
	}
	if e := entries.Check(x); e != api.OK {
		return e
	}
	if s.Some && x.Key < s.Last {
		return api.ErrForm
	}
	return api.OK
}

// fateOf returns what becomes of x, which may come in the state s.
func fateOf(s api.ShState, x api.Entry) fate {
	c := coming{x}
	switch {
	// The empty key is also the Last of a state without an entry.
	case s.Some && x.Key == s.Last:
		return shadowedEntry{c}
	case s.Bottom && x.Dead:
		return droppedEntry{c}
	}
	return keptEntry{c}
}

// An outcome is what became of the entries up to now.
type outcome struct {
	kept              []api.Entry
	shadowed, dropped int
}

// add adds what became of one more entry.
func (o *outcome) add(f fate) {
	switch f := f.(type) {
	case keptEntry:
		o.kept = append(o.kept, f.entry())
	case shadowedEntry:
		o.shadowed++
	case droppedEntry:
		o.dropped++
	}
}

// sift returns what becomes of all entries; with an error, the index of the first one that is wrong, or -1 if there are too many.
func sift(l []api.Entry, bottom bool) (o outcome, entry int, e api.Errno) {
	if len(l) > api.MaxFiltered {
		return outcome{}, -1, api.ErrLong
	}
	s := Begin(bottom)
	for i, x := range l {
		f, after, e := next(s, x)
		if e != api.OK {
			return outcome{}, i, e
		}
		o.add(f)
		s = after
	}
	return o, 0, api.OK
}

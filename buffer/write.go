package buffer

import (
	"bookend/api"
	"bookend/entries"
)

// Fits returns whether the buffer has room for the keys of the entries.
func Fits(b api.BfBuffer, l []api.Entry) (bool, api.Errno) {
	if e := checkBatch(b, l); e != api.OK {
		return false, e
	}
	_, _, fit := written(b, l)
	return fit, api.OK
}

// Write returns the buffer after one entry was written, and the work.
func Write(b api.BfBuffer, x api.Entry) (c api.BfBuffer, work int, e api.Errno) {
	return Batch(b, []api.Entry{x})
}

// Batch returns the buffer after the entries were written, one after the other, and the work of all.
func Batch(b api.BfBuffer, l []api.Entry) (c api.BfBuffer, work int, e api.Errno) {
	if e := checkBatch(b, l); e != api.OK {
		return api.BfBuffer{}, 0, e
	}
	c, work, fit := written(b, l)
	if !fit {
		return api.BfBuffer{}, 0, api.ErrFull
	}
	return c, work, api.OK
}

// checkBatch returns OK if b is a buffer, and l are entries that may be written at once.
func checkBatch(b api.BfBuffer, l []api.Entry) api.Errno {
	if _, e := Check(b); e != api.OK {
		return e
	}
	if len(l) > api.MaxBuffer {
		return api.ErrLong
	}
	for _, x := range l {
		if e := entries.Check(x); e != api.OK {
			return e
		}
	}
	return api.OK
}

// written returns the buffer after the entries were written, in new memory, the work of all, and whether they fit; if they do not, the rest is of no use.
func written(b api.BfBuffer, l []api.Entry) (c api.BfBuffer, work int, fit bool) {
	// There is room for all that may come, so the entries stay in this memory.
	own := make([]api.Entry, len(b.Entries), b.Most)
	copy(own, b.Entries)
	fit = true
batch:
	for _, x := range l {
		at, found := find(own, x.Key)
		switch {
		case found:
			own[at] = x
		case len(own) == b.Most:
			fit = false
			break batch
		default:
			own = insert(own, at, x)
		}
		// The work is 1 for the entry itself, and 1 for each one behind it.
		work += len(own) - at
	}
	return api.BfBuffer{Most: b.Most, Entries: own}, work, fit
}

// insert puts an entry at its place in a list that has room for it, and returns the longer list.
func insert(l []api.Entry, at int, x api.Entry) []api.Entry {
	end := len(l) + 1
	tail := l[at:end:end]
	copy(tail[1:], tail)
	tail[0] = x
	return l[:end]
}

package runs

import (
	"sort"

	"bookend/api"
	"bookend/fence"
	"bookend/keys"
)

// step is how many entries a block of a fence has: few enough for a short search in it, and enough for a short fence of the longest run.
const step = 16

// An index is the entries of a run, with a fence of them.
type index struct {
	entries []api.Entry
	fence   api.FeFence
}

// A search looks for an entry that is near to a key.
type search interface {
	// in returns the place of the entry in the list, as an int, or nil if there is no such entry.
	in(x index, key string, strict bool) any
}

// floor is the search of the entry with the greatest key that is not greater than the key (strictly: less).
type floor struct{}

// ceiling is the search of the entry with the least key that is not less than the key (strictly: greater).
type ceiling struct{}

// Get returns the entry with the key.
func Get(r api.Run, key string) (api.Entry, api.Errno) {
	x, e := Floor(r, key, false)
	if e != api.OK {
		return api.Entry{}, e
	}
	if x.Key != key {
		return api.Entry{}, api.ErrNone
	}
	return x, api.OK
}

// Floor returns the entry with the greatest key that is not greater than the key; strictly, that is less.
func Floor(r api.Run, key string, strict bool) (api.Entry, api.Errno) {
	return find(r, key, strict, floor{})
}

// Ceiling returns the entry with the least key that is not less than the key; strictly, that is greater.
func Ceiling(r api.Run, key string, strict bool) (api.Entry, api.Errno) {
	return find(r, key, strict, ceiling{})
}

// find returns the entry of the run that the search finds.
func find(r api.Run, key string, strict bool, s search) (api.Entry, api.Errno) {
	if _, e := Check(r); e != api.OK {
		return api.Entry{}, e
	}
	if e := keys.Check(key); e != api.OK {
		return api.Entry{}, e
	}
	at, ok := s.in(indexOf(r), key, strict).(int)
	if !ok {
		return api.Entry{}, api.ErrNone
	}
	return r.Entries[at], api.OK
}

// indexOf returns the index of a run.
func indexOf(r api.Run) index {
	// The run was checked, so there is no error.
	f, _ := fence.Make(r.Entries, step)
	return index{r.Entries, f}
}

func (floor) in(x index, key string, strict bool) any {
	n := x.before(key, !strict)
	if n == 0 {
		return nil
	}
	return n - 1
}

func (ceiling) in(x index, key string, strict bool) any {
	n := x.before(key, strict)
	if n == len(x.entries) {
		return nil
	}
	return n
}

// before returns how many entries have a key that is less than the key, or, with past, not greater.
func (x index) before(key string, past bool) int {
	// The fence fits and the key was checked, so there is no error. All entries before the block of the key are less, all behind it greater.
	from, to, _ := fence.Span(x.fence, len(x.entries), key)
	block := x.entries[from:to]
	return from + sort.Search(len(block), func(i int) bool {
		n, _ := keys.Compare(block[i].Key, key)
		return n > 0 || n == 0 && !past
	})
}

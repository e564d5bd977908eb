package entries

import (
	"iter"
	"slices"

	"bookend/api"
	"bookend/keys"
)

// CheckList returns 0 and OK if l is ascending; otherwise the index of the first entry that is wrong, or -1 if there are too many, and what is wrong.
func CheckList(l []api.Entry) (entry int, e api.Errno) {
	if len(l) > api.MaxEntries {
		return -1, api.ErrLong
	}
	for i, x := range l {
		if e := Check(x); e != api.OK {
			return i, e
		}
		if i > 0 && keyOrder(l[i-1], x) >= 0 {
			return i, api.ErrForm
		}
	}
	return 0, api.OK
}

// Sort returns the entries in their order.
func Sort(l []api.Entry) ([]api.Entry, api.Errno) {
	if e := checkAll(l); e != api.OK {
		return nil, e
	}
	sorted := slices.Clone(l)
	slices.SortStableFunc(sorted, newerFirst{}.compare)
	return sorted, api.OK
}

// Newest returns the newest entry of each key, ascending.
func Newest(l []api.Entry) ([]api.Entry, api.Errno) {
	sorted, e := Sort(l)
	if e != api.OK {
		return nil, e
	}
	return slices.CompactFunc(sorted, sameKey), api.OK
}

// Over returns all entries of fresh, and those of old whose keys it does not have, ascending.
func Over(old, fresh []api.Entry) ([]api.Entry, api.Errno) {
	if _, e := CheckList(old); e != api.OK {
		return nil, e
	}
	if _, e := CheckList(fresh); e != api.OK {
		return nil, e
	}
	var both []api.Entry
	for x := range layered(old, fresh) {
		if len(both) == api.MaxEntries {
			return nil, api.ErrLong
		}
		both = append(both, x)
	}
	return both, api.OK
}

// Live returns the entries of an ascending list that are no tombstones.
func Live(l []api.Entry) ([]api.Entry, api.Errno) {
	if _, e := CheckList(l); e != api.OK {
		return nil, e
	}
	var live []api.Entry
	for _, x := range l {
		if !x.Dead {
			live = append(live, x)
		}
	}
	return live, api.OK
}

// Find returns the index of the entry of an ascending list with this key.
func Find(l []api.Entry, key string) (entry int, e api.Errno) {
	if _, e := CheckList(l); e != api.OK {
		return 0, e
	}
	if e := keys.Check(key); e != api.OK {
		return 0, e
	}
	at := slices.IndexFunc(l, func(x api.Entry) bool { return x.Key == key })
	if at < 0 {
		return 0, api.ErrNone
	}
	return at, api.OK
}

// checkAll returns OK if l is a list of entries, in any order.
func checkAll(l []api.Entry) api.Errno {
	if len(l) > api.MaxEntries {
		return api.ErrLong
	}
	for _, x := range l {
		if e := Check(x); e != api.OK {
			return e
		}
	}
	return api.OK
}

// layered yields the entries of two ascending lists, ascending; of two with the same key that of fresh.
func layered(old, fresh []api.Entry) iter.Seq[api.Entry] {
	return func(yield func(api.Entry) bool) {
		at := 0
		for _, x := range fresh {
			for at < len(old) && keyOrder(old[at], x) < 0 {
				if !yield(old[at]) {
					return
				}
				at++
			}
			if at < len(old) && sameKey(old[at], x) {
				at++
			}
			if !yield(x) {
				return
			}
		}
		for _, x := range old[at:] {
			if !yield(x) {
				return
			}
		}
	}
}

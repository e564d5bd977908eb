package fence

import (
	"sort"

	"bookend/api"
	"bookend/keys"
)

// Block returns the block of the key.
func Block(f api.FeFence, key string) (int, api.Errno) {
	if e := checkKey(f, key); e != api.OK {
		return 0, e
	}
	return blockOf(f, key), api.OK
}

// Blocks returns the first one of the blocks of keys of the range, and the one after the last of them.
func Blocks(f api.FeFence, r api.KeRange) (from, to int, e api.Errno) {
	if _, e := Check(f); e != api.OK {
		return 0, 0, e
	}
	empty, e := keys.Empty(r)
	if e != api.OK || empty {
		return 0, 0, e
	}
	last := len(f.Marks)
	if r.Bound {
		last = leading(f.Marks, func(m string) bool { return less(m, r.High) })
	}
	return blockOf(f, r.Low), last + 1, api.OK
}

// Span returns, for a list of n entries, the indices of the first entry of the block of the key, and of the first one after it.
func Span(f api.FeFence, n int, key string) (from, to int, e api.Errno) {
	if e := checkKey(f, key); e != api.OK {
		return 0, 0, e
	}
	if n < 0 || n > api.MaxEntries {
		return 0, 0, api.ErrRange
	}
	if len(f.Marks) != marksFor(n, f.Step) {
		return 0, 0, api.ErrForm
	}
	from, to = bounds(n, f.Step, blockOf(f, key))
	return from, to, api.OK
}

// Find returns the index of the entry with this key in an ascending list that the fence fits.
func Find(f api.FeFence, l []api.Entry, key string) (entry int, e api.Errno) {
	if e := checkBoth(f, l); e != api.OK {
		return 0, e
	}
	if e := keys.Check(key); e != api.OK {
		return 0, e
	}
	if !fits(f, l) {
		return 0, api.ErrForm
	}
	at := blockOf(f, key)
	part := block(l, f.Step, at)
	i := leading(part, func(x api.Entry) bool { return less(x.Key, key) })
	if i == len(part) || part[i].Key != key {
		return 0, api.ErrNone
	}
	return at*f.Step + i, api.OK
}

// checkKey returns OK if f is a fence and key a key.
func checkKey(f api.FeFence, key string) api.Errno {
	if _, e := Check(f); e != api.OK {
		return e
	}
	return keys.Check(key)
}

// blockOf returns the block of the key.
func blockOf(f api.FeFence, key string) int {
	return leading(f.Marks, func(m string) bool { return !less(key, m) })
}

// leading returns how many elements of the list are low: all of these come before the others.
func leading[T any](l []T, low func(T) bool) int {
	return sort.Search(len(l), func(i int) bool { return !low(l[i]) })
}

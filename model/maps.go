package model

import (
	"slices"

	"bookend/api"
	"bookend/keys"
)

// Check returns 0 and OK if m is a map; otherwise the index of the first pair that is wrong, or -1 if there are too many, and what is wrong.
func Check(m []api.Pair) (pair int, e api.Errno) {
	if len(m) > api.MaxWrites {
		return -1, api.ErrFull
	}
	for i, p := range m {
		if e := checkSizes(p.Key, p.Val); e != api.OK {
			return i, e
		}
		if i > 0 && order(m[i-1].Key, p.Key) >= 0 {
			return i, api.ErrForm
		}
	}
	return 0, api.OK
}

// Write returns the map after all writes of the batch.
func Write(m []api.Pair, l []api.OpWrite) ([]api.Pair, api.Errno) {
	if _, e := Check(m); e != api.OK {
		return nil, e
	}
	if e := checkBatch(l); e != api.OK {
		return nil, e
	}
	after := slices.Clone(m)
	for _, w := range l {
		after = written(after, w)
	}
	// Only what is left after all of them counts: a batch may put more, and drop it again.
	if len(after) > api.MaxWrites {
		return nil, api.ErrFull
	}
	return after, api.OK
}

// Get returns the value of the key.
func Get(m []api.Pair, key string) (string, api.Errno) {
	if e := checkMapAndKey(m, key); e != api.OK {
		return "", e
	}
	at, there := place(m, key)
	if !there {
		return "", api.ErrNone
	}
	return m[at].Val, api.OK
}

// Floor returns the pair with the greatest key that is at most this one.
func Floor(m []api.Pair, key string) (api.Pair, api.Errno) {
	if e := checkMapAndKey(m, key); e != api.OK {
		return api.Pair{}, e
	}
	at, there := place(m, key)
	switch {
	case there:
		return m[at], api.OK
	case at == 0:
		return api.Pair{}, api.ErrNone
	}
	return m[at-1], api.OK
}

// Ceiling returns the pair with the least key that is at least this one.
func Ceiling(m []api.Pair, key string) (api.Pair, api.Errno) {
	if e := checkMapAndKey(m, key); e != api.OK {
		return api.Pair{}, e
	}
	at, _ := place(m, key)
	if at == len(m) {
		return api.Pair{}, api.ErrNone
	}
	return m[at], api.OK
}

// Part returns the pairs whose keys are in the range.
func Part(m []api.Pair, r api.KeRange) ([]api.Pair, api.Errno) {
	if _, e := Check(m); e != api.OK {
		return nil, e
	}
	if e := keys.CheckRange(r); e != api.OK {
		return nil, e
	}
	var part []api.Pair
	for _, p := range m {
		// The range and the keys were checked, so there is no error.
		if in, _ := keys.In(r, p.Key); in {
			part = append(part, p)
		}
	}
	return part, api.OK
}

// checkSizes returns OK if a map may have the key and the value.
func checkSizes(key, val string) api.Errno {
	if e := keys.Check(key); e != api.OK {
		return e
	}
	if len(val) > api.MaxVal {
		return api.ErrLong
	}
	return api.OK
}

// checkBatch returns OK if l is a batch.
func checkBatch(l []api.OpWrite) api.Errno {
	switch {
	case len(l) == 0:
		return api.ErrForm
	case len(l) > api.MaxBatch:
		return api.ErrLong
	}
	for _, w := range l {
		if e := checkSizes(w.Key, w.Val); e != api.OK {
			return e
		}
		if w.Dead && w.Val != "" {
			return api.ErrForm
		}
	}
	return api.OK
}

// checkMapAndKey returns OK if m is a map, and key a key.
func checkMapAndKey(m []api.Pair, key string) api.Errno {
	if _, e := Check(m); e != api.OK {
		return e
	}
	return keys.Check(key)
}

// written returns the map after one write. It may use the memory of m.
func written(m []api.Pair, w api.OpWrite) []api.Pair {
	at, there := place(m, w.Key)
	switch {
	case w.Dead && there:
		return slices.Delete(m, at, at+1)
	case w.Dead:
		return m
	case there:
		m[at].Val = w.Val
		return m
	}
	return slices.Insert(m, at, api.Pair{Key: w.Key, Val: w.Val})
}

// place returns where the key is in the map, or would be, and whether it is there.
func place(m []api.Pair, key string) (int, bool) {
	return slices.BinarySearchFunc(m, key, func(p api.Pair, key string) int { return order(p.Key, key) })
}

// order compares two keys.
func order(a, b string) int {
	// Both were checked, so there is no error.
	n, _ := keys.Compare(a, b)
	return n
}

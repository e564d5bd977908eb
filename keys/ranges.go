package keys

import "bookend/api"

// CheckRange returns OK if r is a range.
func CheckRange(r api.KeRange) api.Errno {
	if e := checkBoth(r.Low, r.High); e != api.OK {
		return e
	}
	if !r.Bound && r.High != "" {
		return api.ErrForm
	}
	return api.OK
}

// In returns whether the range has the key.
func In(r api.KeRange, k string) (bool, api.Errno) {
	if e := CheckRange(r); e != api.OK {
		return false, e
	}
	if e := Check(k); e != api.OK {
		return false, e
	}
	return has(r, k), api.OK
}

// Empty returns whether the range has no key.
func Empty(r api.KeRange) (bool, api.Errno) {
	if e := CheckRange(r); e != api.OK {
		return false, e
	}
	// If the range has a key at all, it has its least one.
	return !has(r, r.Low), api.OK
}

// Meet returns the range of the keys that both ranges have.
func Meet(r, s api.KeRange) (api.KeRange, api.Errno) {
	if e := CheckRange(r); e != api.OK {
		return api.KeRange{}, e
	}
	if e := CheckRange(s); e != api.OK {
		return api.KeRange{}, e
	}
	both := r
	both.Low = max(r.Low, s.Low)
	if s.Bound && (!r.Bound || s.High < r.High) {
		both.High, both.Bound = s.High, true
	}
	return both, api.OK
}

// Of returns the range of the keys that begin with the prefix.
func Of(prefix string) (api.KeRange, api.Errno) {
	if e := Check(prefix); e != api.OK {
		return api.KeRange{}, e
	}
	high, ok := past(prefix)
	return api.KeRange{Low: prefix, High: high, Bound: ok}, api.OK
}

// has reports whether the range has the key.
func has(r api.KeRange, k string) bool {
	return k >= r.Low && (!r.Bound || k < r.High)
}

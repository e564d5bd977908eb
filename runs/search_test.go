package runs_test

import (
	"slices"
	"testing"

	"bookend/api"
	"bookend/runs"
)

// A searches is what the searches of a key find: Get, Floor, Floor strictly, Ceiling, Ceiling strictly; the zero entry stands for ErrNone.
type searches [5]api.Entry

// searchNames has the names of the searches.
var searchNames = [5]string{"Get", "Floor", "Floor, strictly,", "Ceiling", "Ceiling, strictly,"}

// searchAll makes all searches of a key.
func searchAll(r api.Run, key string) (found searches, errs [5]api.Errno) {
	found[0], errs[0] = runs.Get(r, key)
	found[1], errs[1] = runs.Floor(r, key, false)
	found[2], errs[2] = runs.Floor(r, key, true)
	found[3], errs[3] = runs.Ceiling(r, key, false)
	found[4], errs[4] = runs.Ceiling(r, key, true)
	return found, errs
}

// searchesOf is what the searches of a key must find.
func searchesOf(r api.Run, key string) (found searches, errs [5]api.Errno) {
	found[0], errs[0] = getOf(r, key)
	found[1], errs[1] = floorOf(r, key, false)
	found[2], errs[2] = floorOf(r, key, true)
	found[3], errs[3] = ceilingOf(r, key, false)
	found[4], errs[4] = ceilingOf(r, key, true)
	return found, errs
}

// checkSearches checks all searches of a key.
func checkSearches(t *testing.T, r api.Run, key string, want searches) {
	t.Helper()
	found, errs := searchAll(r, key)
	for i, name := range searchNames {
		we := api.OK
		if want[i] == (api.Entry{}) {
			we = api.ErrNone
		}
		checkOne(t, name, found[i], errs[i], want[i], we, key, r)
	}
}

// checkErrors checks that all searches of a key have this error.
func checkErrors(t *testing.T, r api.Run, key string, want api.Errno) {
	t.Helper()
	found, errs := searchAll(r, key)
	for i, name := range searchNames {
		checkOne(t, name, found[i], errs[i], api.Entry{}, want, key, r)
	}
}

// checkFound checks all searches of a key against those of a walk through all entries.
func checkFound(t *testing.T, r api.Run, key string) {
	t.Helper()
	want, we := searchesOf(r, key)
	found, errs := searchAll(r, key)
	for i, name := range searchNames {
		checkOne(t, name, found[i], errs[i], want[i], we[i], key, r)
	}
}

// P8.2: runs of all kinds, with keys of all kinds, those of the run among them, and what is just below and above these.
func TestSearches(t *testing.T) {
	tried := near(append(edgeKeys(), allOf("\x00a\xff", 3)...))
	for _, r := range someRuns() {
		if len(r.Entries) > 100 {
			continue
		}
		keys := tried
		for _, x := range r.Entries {
			keys = append(slices.Clip(keys), near([]string{x.Key})...)
		}
		for _, key := range keys {
			checkFound(t, r, key)
		}
	}
}

// P8.2: runs of all lengths up to some, and of the greatest one, with all keys of theirs, and what is just below and above these.
func TestSearchLengths(t *testing.T) {
	for n := range 140 {
		r := keyed(7, numbered(n)...)
		for _, key := range near(numbered(n + 1)) {
			checkFound(t, r, key)
		}
	}
	for _, n := range []int{1000, 4999, 5000} {
		r := keyed(7, numbered(n)...)
		d := &dice{uint32(n)}
		for _, key := range append(d.some(near(numbered(n)), n/20), near(numbered(n + 1)[n-1:])...) {
			checkFound(t, r, key)
		}
	}
}

// P8.2: runs of which every second key is missing, so that there are gaps at all places.
func TestSearchGaps(t *testing.T) {
	for _, n := range []int{2, 3, 30, 31, 32, 33, 34, 60, 128, 129, 130, 260} {
		var keys []string
		for i, k := range numbered(n) {
			if i%2 == 0 {
				keys = append(keys, k)
			}
		}
		r := keyed(7, keys...)
		for i, k := range numbered(n) {
			var want searches
			at := i / 2
			switch {
			case i%2 == 0:
				want[0], want[1], want[3] = r.Entries[at], r.Entries[at], r.Entries[at]
				if at > 0 {
					want[2] = r.Entries[at-1]
				}
			default:
				want[1], want[2] = r.Entries[at], r.Entries[at]
				if at+1 < len(r.Entries) {
					want[3] = r.Entries[at+1]
				}
			}
			if at+1 < len(r.Entries) {
				want[4] = r.Entries[at+1]
			}
			checkSearches(t, r, k, want)
		}
	}
}

// P8.2: tombstones count as other entries do, also alone.
func TestSearchDead(t *testing.T) {
	a, b, c := del("a", 1), del("b", 1e9), del("c", 5)
	var none api.Entry
	r := run(1, a, b, c)
	checkSearches(t, r, "b", searches{b, b, a, b, c})
	checkSearches(t, r, "a", searches{a, a, none, a, b})
	checkSearches(t, r, "c", searches{c, c, b, c, none})
	checkSearches(t, r, "aa", searches{none, a, a, b, b})
	checkSearches(t, run(1, del("", 1)), "", searches{del("", 1), del("", 1), none, del("", 1), none})
	checkSearches(t, run(1e6), "a", searches{})
	checkSearches(t, api.Run{Id: 1, Entries: []api.Entry{}}, "", searches{})
}

// P8.2: what is no key.
func TestSearchErrors(t *testing.T) {
	for _, r := range someRuns() {
		for _, key := range wrongKeys() {
			checkErrors(t, r, key, api.ErrLong)
		}
	}
}

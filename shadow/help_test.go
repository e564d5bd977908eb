package shadow_test

import (
	"fmt"
	"math/rand"
	"slices"
	"strings"
	"testing"

	"bookend/api"
	"bookend/entries"
	"bookend/shadow"
)

// put and del are entries.
func put(key, val string, seq int64) api.Entry { return api.Entry{Key: key, Val: val, Seq: seq} }
func del(key string, seq int64) api.Entry      { return api.Entry{Key: key, Dead: true, Seq: seq} }

// example returns the list of the chapter.
func example() []api.Entry {
	return []api.Entry{put("a", "1", 1), del("b", 5), put("b", "2", 2), put("c", "3", 4), del("c", 3)}
}

// edgeKeys returns keys, ascending, at which an order could go wrong, also of the greatest length.
func edgeKeys() []string {
	return []string{"", "\x00", "\x00\x00", "A", "a", "a\x00", "aa", "ab", strings.Repeat("b", 31), strings.Repeat("b", 32), "c", "\x7f", "\x80", "é", "\xff", "\xff\x00", strings.Repeat("\xff", 31) + "\xfe", strings.Repeat("\xff", 32)}
}

// longKeys returns strings that are too long for a key, by one byte or by many.
func longKeys() []string {
	return []string{strings.Repeat("\x00", 33), strings.Repeat("b", 33), strings.Repeat("\xff", 33), strings.Repeat("b", 1<<16)}
}

// A wrongEntry is what is no entry, and the error of it.
type wrongEntry struct {
	x api.Entry
	e api.Errno
}

// wrongEntries returns what is no entry, with each error, also with more than one.
func wrongEntries() []wrongEntry {
	long, val := strings.Repeat("k", 33), strings.Repeat("v", 65)
	return []wrongEntry{
		{api.Entry{}, api.ErrRange}, {put("a", "", 0), api.ErrRange}, {put("a", "1", -1), api.ErrRange}, {del("b", 1e9+1), api.ErrRange}, {put("z", "", -1<<63), api.ErrRange}, {put("", "", 1<<63-1), api.ErrRange},
		{api.Entry{Key: "a", Val: "1", Dead: true, Seq: 1}, api.ErrForm}, {api.Entry{Val: "1", Dead: true}, api.ErrForm},
		{put(long, "", 1), api.ErrLong}, {del(long, 0), api.ErrLong}, {put("a", val, 1), api.ErrLong}, {api.Entry{Key: "b", Val: val, Dead: true}, api.ErrLong}, {put(long, val, -1), api.ErrLong},
	}
}

// someEntries returns entries with the edge keys, live and dead, with the least and the greatest numbers and values.
func someEntries() []api.Entry {
	var l []api.Entry
	for i, k := range edgeKeys() {
		l = append(l, put(k, strings.Repeat("v", i%2*64), 1), del(k, 1e9))
	}
	return l
}

// allStates returns states of each kind, and what is none.
func allStates() []api.ShState {
	var l []api.ShState
	for _, k := range append(edgeKeys(), longKeys()...) {
		for _, some := range []bool{false, true} {
			l = append(l, api.ShState{Some: some, Last: k}, api.ShState{Some: some, Last: k, Bottom: true})
		}
	}
	return l
}

// smallLists returns all lists of up to five entries of two keys, and those of up to four of three keys, one of them empty, and of what is no entry; so also lists whose keys fall.
func smallLists() [][]api.Entry {
	two := []api.Entry{put("a", "", 1), del("a", 2), put("b", "x", 3), del("b", 4)}
	three := []api.Entry{put("", "", 1), del("", 1), put("a", "y", 9), del("a", 8), put("ab", "", 7), del("ab", 6), put("a", "", 0)}
	return append(rows(two, 5), rows(three, 4)...)
}

// rows returns all rows of up to n of the entries.
func rows(of []api.Entry, n int) [][]api.Entry {
	all := [][]api.Entry{nil}
	last := all
	for range n {
		var longer [][]api.Entry
		for _, row := range last {
			for _, x := range of {
				longer = append(longer, append(slices.Clone(row), x))
			}
		}
		all, last = append(all, longer...), longer
	}
	return all
}

// mixedLists returns lists of the edge keys in their order, each key several times or not at all.
func mixedLists() [][]api.Entry {
	r := rand.New(rand.NewSource(12))
	var lists [][]api.Entry
	for range 200 {
		var l []api.Entry
		most := 1 + r.Intn(4)
		for _, k := range edgeKeys() {
			for range r.Intn(1 + most) {
				l = append(l, randomEntry(r, k))
			}
		}
		lists = append(lists, l)
	}
	return lists
}

// randomEntry returns an entry with the key.
func randomEntry(r *rand.Rand, key string) api.Entry {
	seq := 1 + r.Int63n(1e9)
	if r.Intn(3) == 0 {
		return del(key, seq)
	}
	return put(key, strings.Repeat("v", r.Intn(65)), seq)
}

// goodLists returns lists of the kinds above that have no error.
func goodLists() [][]api.Entry {
	return slices.DeleteFunc(slices.Concat([][]api.Entry{example()}, smallLists(), mixedLists()), func(l []api.Entry) bool {
		_, e := listErr(l)
		return e != api.OK
	})
}

// repeated returns n entries, each key several times; each third one is a tombstone.
func repeated(n, times int) []api.Entry {
	var l []api.Entry
	for i := range n {
		key := fmt.Sprintf("%05d", i/times)
		if i%3 == 2 {
			l = append(l, del(key, int64(n-i)))
		} else {
			l = append(l, put(key, "v", int64(n-i)))
		}
	}
	return l
}

// A result is what a function returned; what it does not have is zero.
type result struct {
	call  string
	kept  bool
	state api.ShState
	l     []api.Entry
	count api.ShCount
	n     int
	e     api.Errno
}

// same reports whether two results are equal.
func same(a, b result) bool {
	return a.call == b.call && a.kept == b.kept && a.state == b.state && slices.Equal(a.l, b.l) && a.count == b.count && a.n == b.n && a.e == b.e
}

// brief returns the beginning of what there is, for messages.
func brief(x any) string {
	s := fmt.Sprintf("%+q", x)
	if len(s) > 400 {
		return fmt.Sprintf("%s .. (%d)", s[:400], len(s))
	}
	return s
}

// checkOne checks one result.
func checkOne(t *testing.T, of any, got, want result) {
	t.Helper()
	if !same(got, want) {
		t.Errorf("%s: %s, want %s", brief(of), brief(got), brief(want))
	}
}

// callState calls each function that has a state.
func callState(s api.ShState, x api.Entry) []result {
	kept, u, e := shadow.Step(s, x)
	return []result{{call: "Check", e: shadow.Check(s)}, {call: "Step", kept: kept, state: u, e: e}}
}

// wantState returns what each of them must return.
func wantState(s api.ShState, x api.Entry) []result {
	check, step := result{call: "Check", e: stateErr(s)}, result{call: "Step"}
	switch {
	case check.e != api.OK:
		step.e = check.e
	case entries.Check(x) != api.OK:
		step.e = entries.Check(x)
	case s.Some && strings.Compare(s.Last, x.Key) > 0:
		step.e = api.ErrForm
	default:
		first := !s.Some || s.Last != x.Key
		step.kept = first && !(s.Bottom && x.Dead)
		step.state = api.ShState{Some: true, Last: x.Key, Bottom: s.Bottom}
	}
	return []result{check, step}
}

// stateErr is the error of a state.
func stateErr(s api.ShState) api.Errno {
	switch {
	case len(s.Last) > 32:
		return api.ErrLong
	case len(s.Last) > 0 && !s.Some:
		return api.ErrForm
	}
	return api.OK
}

// callList calls each function that has a list.
func callList(l []api.Entry, bottom bool) []result {
	out, n, e := shadow.Filter(l, bottom)
	c, m, f := shadow.Count(l, bottom)
	return []result{{call: "Filter", l: out, n: n, e: e}, {call: "Count", count: c, n: m, e: f}}
}

// wantList returns what each of them must return.
func wantList(l []api.Entry, bottom bool) []result {
	if n, e := listErr(l); e != api.OK {
		return []result{{call: "Filter", n: n, e: e}, {call: "Count", n: n, e: e}}
	}
	met := map[string]bool{}
	filter, count := result{call: "Filter"}, result{call: "Count"}
	for _, x := range l {
		switch {
		case met[x.Key]:
			count.count.Shadowed++
		case bottom && x.Dead:
			count.count.Dropped++
		default:
			filter.l = append(filter.l, x)
			count.count.Kept++
		}
		met[x.Key] = true
	}
	return []result{filter, count}
}

// listErr is the first error of a list, and where it is.
func listErr(l []api.Entry) (int, api.Errno) {
	if len(l) > 20000 {
		return -1, api.ErrLong
	}
	for i, x := range l {
		if e := entries.Check(x); e != api.OK {
			return i, e
		}
		if i > 0 && strings.Compare(l[i-1].Key, x.Key) > 0 {
			return i, api.ErrForm
		}
	}
	return 0, api.OK
}

// checkState checks each function that has a state.
func checkState(t *testing.T, s api.ShState, x api.Entry) {
	t.Helper()
	want := wantState(s, x)
	for i, got := range callState(s, x) {
		checkOne(t, []any{s, x}, got, want[i])
	}
}

// checkList checks each function that has a list, at the bottom and not.
func checkList(t *testing.T, l []api.Entry) {
	t.Helper()
	for _, bottom := range []bool{false, true} {
		want := wantList(l, bottom)
		for i, got := range callList(l, bottom) {
			checkOne(t, []any{bottom, l}, got, want[i])
		}
	}
}

package entries_test

import (
	"fmt"
	"slices"
	"strings"
	"testing"

	"bookend/api"
)

// put and del are entries.
func put(key, val string, seq int64) api.Entry { return api.Entry{Key: key, Val: val, Seq: seq} }
func del(key string, seq int64) api.Entry      { return api.Entry{Key: key, Dead: true, Seq: seq} }

// list is a list of entries.
func list(l ...api.Entry) []api.Entry { return l }

// repeat is strings.Repeat with a shorter name.
func repeat(s string, n int) string { return strings.Repeat(s, n) }

// errOf is what Check must return.
func errOf(x api.Entry) api.Errno {
	switch {
	case len(x.Key) > 32, len(x.Val) > 64:
		return api.ErrLong
	case x.Dead && len(x.Val) > 0:
		return api.ErrForm
	case x.Seq <= 0, x.Seq >= 1000000001:
		return api.ErrRange
	}
	return api.OK
}

// firstErr is the first error of Check for these entries.
func firstErr(l ...api.Entry) api.Errno {
	for _, x := range l {
		if e := errOf(x); e != api.OK {
			return e
		}
	}
	return api.OK
}

// before reports whether a comes before b in the order.
func before(a, b api.Entry) bool {
	if c := slices.Compare([]byte(a.Key), []byte(b.Key)); c != 0 {
		return c < 0
	}
	return a.Seq > b.Seq
}

// wrongEntries returns an entry with each error, and some with several.
func wrongEntries() []api.Entry {
	return list(
		put(repeat("k", 33), "", 1), put("k", repeat("v", 65), 1), put(repeat("k", 33), "", 0), del(repeat("k", 33), 0),
		api.Entry{Key: "k", Val: "v", Dead: true, Seq: 1}, api.Entry{Key: "k", Val: "v", Dead: true}, api.Entry{Key: "k", Val: repeat("v", 65), Dead: true, Seq: 1},
		put("k", "v", 0), put("k", "v", 1000000001), del("k", -1), api.Entry{},
	)
}

// fewEntries returns entries of few keys that are in order, or differ in one thing only.
func fewEntries() []api.Entry {
	return list(
		put("", "", 1), del("", 2), put("a", "1", 5), put("a", "other", 5), del("a", 5), del("a", 7), put("a\x00", "", 6), put("ab", "", 1000000000),
		put("b", "2", 6), put("b", "2", 10), put("\x7f", "", 1), put("\x80", "", 1), put("é", "", 3), del("\xff", 1), put(repeat("\xff", 32), repeat("\xff", 64), 1),
	)
}

// numbered returns n entries, ascending, whose keys begin with the prefix.
func numbered(prefix string, n int) []api.Entry {
	var l []api.Entry
	for i := range n {
		l = append(l, put(prefix+string([]byte{byte(i >> 8), byte(i)}), "v", int64(i%7+1)))
	}
	return l
}

// A dice yields numbers, the same ones each time.
type dice struct{ x uint32 }

// roll returns a number from 0 to n - 1.
func (d *dice) roll(n int) int {
	d.x = d.x*1664525 + 1013904223
	return int(d.x>>8) % n
}

// mixed returns n entries with few keys and few sequence numbers, in no order.
func (d *dice) mixed(n int) []api.Entry {
	var l []api.Entry
	for range n {
		x := put(repeat("a", d.roll(3))+repeat("\xff", d.roll(2)), "", int64(d.roll(4)+1))
		if d.roll(3) == 0 {
			x.Dead = true
		} else {
			x.Val = string([]byte{byte('0' + d.roll(10))})
		}
		l = append(l, x)
	}
	return l
}

// rising returns an ascending list of some of the keys, each once.
func (d *dice) rising(keys []string, most int) []api.Entry {
	var l []api.Entry
	for _, k := range keys {
		x := put(k, "", int64(d.roll(most)+1))
		switch d.roll(3) {
		case 0:
			continue
		case 1:
			x.Dead = true
		default:
			x.Val = string([]byte{byte('0' + d.roll(10))})
		}
		l = append(l, x)
	}
	return l
}

// orders yields the entries in each order.
func orders(l []api.Entry, yield func([]api.Entry)) {
	var grow func(done, left []api.Entry)
	grow = func(done, left []api.Entry) {
		if len(left) == 0 {
			yield(done)
		}
		for i, x := range left {
			grow(append(slices.Clip(done), x), append(slices.Clone(left[:i]), left[i+1:]...))
		}
	}
	grow(nil, l)
}

// brief returns entries, or the first ones of them, for messages.
func brief(l ...api.Entry) string {
	s := ""
	for _, x := range l {
		s += fmt.Sprintf("{%.40q %.40q %v %d}", x.Key, x.Val, x.Dead, x.Seq)
		if len(s) > 300 {
			return fmt.Sprintf("%s .. (%d)", s, len(l))
		}
	}
	return "[" + s + "]"
}

// checkEntries checks a list and an error.
func checkEntries(t *testing.T, call string, got []api.Entry, e api.Errno, want []api.Entry, we api.Errno) {
	t.Helper()
	if !slices.Equal(got, want) || e != we {
		t.Errorf("%s: %s, %d, want %s, %d", call, brief(got...), e, brief(want...), we)
	}
}

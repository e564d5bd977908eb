package builder_test

import (
	"fmt"
	"slices"
	"strings"
	"testing"

	"bookend/api"
	"bookend/builder"
)

// put and del are entries.
func put(key, val string, seq int64) api.Entry { return api.Entry{Key: key, Val: val, Seq: seq} }
func del(key string, seq int64) api.Entry      { return api.Entry{Key: key, Dead: true, Seq: seq} }

// list is a list of entries, run a run.
func list(l ...api.Entry) []api.Entry    { return l }
func run(id int, l ...api.Entry) api.Run { return api.Run{Id: id, Entries: l} }

// repeat is strings.Repeat with a shorter name.
func repeat(s string, n int) string { return strings.Repeat(s, n) }

// sameRun reports whether two runs are equal.
func sameRun(a, b api.Run) bool { return a.Id == b.Id && slices.Equal(a.Entries, b.Entries) }

// entryErr is the error of an entry.
func entryErr(x api.Entry) api.Errno {
	switch {
	case len(x.Key) >= 33, len(x.Val) >= 65:
		return api.ErrLong
	case x.Dead && x.Val > "":
		return api.ErrForm
	case x.Seq <= 0, x.Seq > 1e9:
		return api.ErrRange
	}
	return api.OK
}

// idErr is the error of an id.
func idErr(id int) api.Errno {
	if id <= 0 || id > 1e6 {
		return api.ErrRange
	}
	return api.OK
}

// after reports whether the key a is greater than the key b.
func after(a, b string) bool { return slices.Compare([]byte(a), []byte(b)) == 1 }

// listErr is the error of a list of entries.
func listErr(l []api.Entry) api.Errno {
	if len(l) >= 5001 {
		return api.ErrLong
	}
	for i, x := range l {
		if e := entryErr(x); e != api.OK {
			return e
		}
		if i > 0 && !after(x.Key, l[i-1].Key) {
			return api.ErrForm
		}
	}
	return api.OK
}

// runOf is what Of must return.
func runOf(id int, l []api.Entry) (api.Run, api.Errno) {
	for _, e := range []api.Errno{idErr(id), listErr(l)} {
		if e != api.OK {
			return api.Run{}, e
		}
	}
	if len(l) == 0 {
		return api.Run{}, api.ErrNone
	}
	return run(id, l...), api.OK
}

// numbered returns n entries, ascending.
func numbered(n int) []api.Entry {
	var l []api.Entry
	for i := range n {
		l = append(l, put(fmt.Sprintf("%04d", i), "v", int64(i%7+1)))
	}
	return l
}

// edgeEntries returns entries, ascending, at whose keys an order could go wrong: with the longest keys and values, the least and the greatest numbers, and tombstones.
func edgeEntries() []api.Entry {
	return list(
		put("", "", 1), del("\x00", 1e9), put("\x00\x00", "0", 5), put("a", "1", 5), del("a\x00", 4), put("ab", repeat("v", 64), 1e9), put("b", "2", 6), put("\x7f", "\x00\n\"", 1), put("\x80", "", 3), del("é", 2),
		put("\xff", "", 9), put(repeat("\xff", 31), "x", 1), put(repeat("\xff", 32), repeat("\xff", 64), 1),
	)
}

// wrongEntries returns what is no entry: with each error, and with several.
func wrongEntries() []api.Entry {
	return list(
		put(repeat("k", 33), "", 1), put("k", repeat("v", 65), 1), put(repeat("\xff", 33), repeat("v", 65), 0), del(repeat("k", 33), 0), put(repeat("k", 1<<20), repeat("v", 1<<20), -1),
		api.Entry{Key: "k", Val: "v", Dead: true, Seq: 1}, api.Entry{Key: "k", Val: "\x00", Dead: true}, api.Entry{Key: "k", Val: repeat("v", 65), Dead: true, Seq: 1},
		put("k", "v", 0), put("k", "v", 1e9+1), put("k", "", -1<<63), put("k", "", 1<<63-1), put("k", "", 1<<32+1), del("k", -1), api.Entry{},
	)
}

// someIds returns ids, and wrongIds what is none.
func someIds() []int  { return []int{1, 2, 7, 999999, 1000000} }
func wrongIds() []int { return []int{0, -1, -7, 1000001, 1<<32 + 1, 1<<63 - 1, -1 << 63} }

// newBuilder returns a builder with room for most entries, to which these were added.
func newBuilder(t *testing.T, most int, l ...api.Entry) *builder.Builder {
	t.Helper()
	b, e := builder.New(most)
	checkErr(t, "New", e, api.OK, most)
	for _, x := range l {
		checkErr(t, "Add", b.Add(x), api.OK, x)
	}
	return b
}

// scribble changes a run in all of its memory, also in what is behind its end.
func scribble(r api.Run) {
	l := r.Entries[:cap(r.Entries)]
	for i := range l {
		l[i] = api.Entry{Key: "scribbled", Seq: -1}
	}
}

// A dice yields numbers, the same ones each time.
type dice struct{ x uint32 }

// roll returns a number from 0 to n - 1.
func (d *dice) roll(n int) int {
	d.x = d.x*1664525 + 1013904223
	return int(d.x>>8) % n
}

// one returns one of the list.
func one[T any](d *dice, l []T) T { return l[d.roll(len(l))] }

// brief returns what there is, or its beginning, for messages.
func brief(x any) string {
	s := fmt.Sprintf("%+v", x)
	if len(s) > 300 {
		return fmt.Sprintf("%+q .. (%d)", s[:300], len(s))
	}
	return fmt.Sprintf("%+q", s)
}

// checkErr checks an error.
func checkErr(t *testing.T, call string, e, want api.Errno, args ...any) {
	t.Helper()
	if e != want {
		t.Errorf("%s of %s: %d, want %d", call, brief(args), e, want)
	}
}

// checkRun checks a run and an error.
func checkRun(t *testing.T, call string, got api.Run, e api.Errno, want api.Run, we api.Errno, args ...any) {
	t.Helper()
	if !sameRun(got, want) || e != we {
		t.Errorf("%s of %s: %s, %d, want %s, %d", call, brief(args), brief(got), e, brief(want), we)
	}
}

package walk_test

import (
	"fmt"
	"slices"
	"strings"
	"testing"

	"bookend/api"
	"bookend/keys"
	"bookend/runs"
	"bookend/walk"
)

// put and del are entries.
func put(key, val string, seq int64) api.Entry { return api.Entry{Key: key, Val: val, Seq: seq} }
func del(key string, seq int64) api.Entry      { return api.Entry{Key: key, Dead: true, Seq: seq} }

// at is a cursor.
func at(n int) api.WaCursor { return api.WaCursor{At: n} }

// from and upTo are ranges.
func from(low string) api.KeRange       { return api.KeRange{Low: low} }
func upTo(low, high string) api.KeRange { return api.KeRange{Low: low, High: high, Bound: true} }

// example is the run R of chapter 8.
func example() api.Run {
	return api.Run{Id: 7, Entries: []api.Entry{put("a", "1", 1), del("c", 2), put("e", "3", 3)}}
}

// keyed is a run of entries with these keys, each third one of which is a tombstone.
func keyed(keys ...string) api.Run {
	r := api.Run{Id: 7}
	for i, k := range keys {
		if i%3 == 1 {
			r.Entries = append(r.Entries, del(k, int64(i+1)))
		} else {
			r.Entries = append(r.Entries, put(k, fmt.Sprint("v", i), int64(i+1)))
		}
	}
	return r
}

// numbered returns n keys of two bytes, ascending.
func numbered(n int) []string {
	var l []string
	for i := range n {
		l = append(l, string([]byte{byte(i >> 8), byte(i)}))
	}
	return l
}

// edgeKeys returns keys, ascending, at which an order could go wrong, also of the greatest length.
func edgeKeys() []string {
	return []string{"", "\x00", "\x00\x00", "a", "a\x00", "ab", "a\xff", strings.Repeat("b", 32), "c", "\x7f", "\x80", "é", "\xff", "\xff\x00", strings.Repeat("\xff", 31) + "\xfe", strings.Repeat("\xff", 32)}
}

// near returns keys: these, and what is just below and above each of them.
func near(l []string) []string {
	var out []string
	for _, k := range l {
		out = append(out, k)
		if k != "" {
			out = append(out, k[:len(k)-1])
		}
		if len(k) < 32 {
			out = append(out, k+"\x00", k+strings.Repeat("\xff", 32-len(k)))
		}
	}
	slices.Sort(out)
	return slices.Compact(out)
}

// smallRuns returns runs of no entries, and of all small lengths.
func smallRuns() []api.Run {
	edges := edgeKeys()
	l := []api.Run{{Id: 1}, {Id: 1e6, Entries: []api.Entry{}}, example()}
	for n := range edges {
		l = append(l, keyed(edges[:n+1]...), keyed(edges[n:]...), keyed(numbered(n)...))
	}
	for _, n := range []int{17, 31, 32, 33, 64} {
		l = append(l, keyed(numbered(n)...))
	}
	return l
}

// wrongRuns returns what is no run, with each error of runs.Check.
func wrongRuns() []api.Run {
	return []api.Run{
		{}, {Id: -1}, {Id: 1e6 + 1}, {Id: 0, Entries: example().Entries}, {Id: 0, Entries: keyed("b", "a").Entries},
		keyed("b", "a"), keyed("a", "a"), keyed("a", "c", "b"), keyed("a", strings.Repeat("k", 33)), keyed(numbered(5001)...),
		{Id: 1, Entries: []api.Entry{put("a", strings.Repeat("v", 65), 1)}}, {Id: 1, Entries: []api.Entry{put("a", "", 0)}}, {Id: 1, Entries: []api.Entry{put("a", "", 1e9+1)}}, {Id: 1, Entries: []api.Entry{{Key: "a", Val: "v", Dead: true, Seq: 1}}},
	}
}

// places returns all cursors of a run.
func places(r api.Run) []api.WaCursor {
	var l []api.WaCursor
	for n := range len(r.Entries) + 1 {
		l = append(l, at(n))
	}
	return l
}

// wrongPlaces returns what is no cursor of a run.
func wrongPlaces(r api.Run) []api.WaCursor {
	n := len(r.Entries)
	return []api.WaCursor{at(-1), at(-n - 1), at(n + 1), at(n + 2), at(2*n + 1), at(5001), at(1<<32 + n), at(1<<63 - 1), at(-1 << 63)}
}

// wrongKeys and wrongRanges return what is none, with each error.
func wrongKeys() []string {
	return []string{strings.Repeat("k", 33), strings.Repeat("\x00", 33), strings.Repeat("\xff", 1<<20)}
}

func wrongRanges() []api.KeRange {
	long := strings.Repeat("k", 33)
	return []api.KeRange{{High: "b"}, {Low: "b", High: "a"}, from(long), upTo("a", long), upTo(long, "a"), {Low: long, High: "b"}, {Low: "a", High: long}}
}

// wrongCounts returns what Take does not accept.
func wrongCounts() []int {
	return []int{5001, -5001, 1e6, -1e6, 1 << 32, -1 << 32, 1<<63 - 1, -1 << 63}
}

// An args has what the functions are called with.
type args struct {
	r   api.Run
	w   api.WaCursor
	key string
	x   api.KeRange
	n   int
}

// A result is what a function returned; what it does not have is zero.
type result struct {
	call string
	x    api.Entry
	l    []api.Entry
	w    api.WaCursor
	e    api.Errno
}

// same reports whether two results are equal.
func same(a, b result) bool {
	return a.call == b.call && a.x == b.x && slices.Equal(a.l, b.l) && a.w == b.w && a.e == b.e
}

// both are the values of a bool.
var both = []bool{false, true}

// callAll calls each function.
func callAll(a args) []result {
	out := []result{{call: "Check", e: walk.Check(a.r, a.w)}}
	w, e := walk.First(a.r)
	out = append(out, result{call: "First", w: w, e: e})
	w, e = walk.Last(a.r)
	out = append(out, result{call: "Last", w: w, e: e})
	for _, past := range both {
		w, e = walk.Seek(a.r, a.key, past)
		out = append(out, result{call: fmt.Sprint("Seek, past ", past), w: w, e: e})
	}
	x, w, e := walk.Next(a.r, a.w)
	out = append(out, result{call: "Next", x: x, w: w, e: e})
	x, w, e = walk.Prev(a.r, a.w)
	out = append(out, result{call: "Prev", x: x, w: w, e: e})
	w, e = walk.Clip(a.r, a.w, a.x)
	out = append(out, result{call: "Clip", w: w, e: e})
	l, w, e := walk.Take(a.r, a.w, a.n)
	out = append(out, result{call: "Take", l: l, w: w, e: e})
	for _, dead := range both {
		for _, back := range both {
			x, w, e = walk.Skip(a.r, a.w, dead, back)
			out = append(out, result{call: fmt.Sprint("Skip, dead ", dead, ", back ", back), x: x, w: w, e: e})
		}
	}
	return out
}

// wantAll returns what each function must return.
func wantAll(a args) []result {
	_, runErr := runs.Check(a.r)
	curErr := firstErr(runErr, cursorErr(a.r, a.w))
	out := []result{{call: "Check", e: curErr}, failed("First", runErr, func() result { return result{w: at(0)} }), failed("Last", runErr, func() result { return result{w: at(len(a.r.Entries))} })}
	for _, past := range both {
		out = append(out, failed(fmt.Sprint("Seek, past ", past), firstErr(runErr, keys.Check(a.key)), func() result { return seekOf(a, past) }))
	}
	each := func(api.Entry) bool { return true }
	out = append(out,
		failed("Next", curErr, func() result { return findOf(a, each, false) }),
		failed("Prev", curErr, func() result { return findOf(a, each, true) }),
		failed("Clip", firstErr(curErr, keys.CheckRange(a.x)), func() result { return clipOf(a) }),
		failed("Take", firstErr(curErr, countErr(a.n)), func() result { return takeOf(a) }))
	for _, dead := range both {
		for _, back := range both {
			kind := func(x api.Entry) bool { return x.Dead == dead }
			out = append(out, failed(fmt.Sprint("Skip, dead ", dead, ", back ", back), curErr, func() result { return findOf(a, kind, back) }))
		}
	}
	return out
}

// failed is the result of a call with an error, or, without one, what it must return otherwise.
func failed(call string, e api.Errno, otherwise func() result) result {
	if e != api.OK {
		return result{call: call, e: e}
	}
	x := otherwise()
	x.call = call
	return x
}

// firstErr is the first one that is an error.
func firstErr(l ...api.Errno) api.Errno {
	for _, e := range l {
		if e != api.OK {
			return e
		}
	}
	return api.OK
}

// cursorErr is the error of a cursor.
func cursorErr(r api.Run, w api.WaCursor) api.Errno {
	if !slices.Contains(places(r), w) {
		return api.ErrRange
	}
	return api.OK
}

// countErr is the error of a number of entries to take.
func countErr(n int) api.Errno {
	if n > 5000 || n < -5000 {
		return api.ErrRange
	}
	return api.OK
}

// seekOf is what Seek must return without an error.
func seekOf(a args, past bool) result {
	n := 0
	for _, x := range a.r.Entries {
		if x.Key < a.key || past && x.Key == a.key {
			n++
		}
	}
	return result{w: at(n)}
}

// clipOf is what Clip must return without an error.
func clipOf(a args) result {
	low, high := 0, 0
	for _, x := range a.r.Entries {
		if x.Key < a.x.Low {
			low++
		}
		if !a.x.Bound || x.Key < a.x.High {
			high++
		}
	}
	switch high = max(high, low); {
	case a.w.At < low:
		return result{w: at(low)}
	case a.w.At > high:
		return result{w: at(high)}
	}
	return result{w: a.w}
}

// aheadOf returns the entries after the cursor, or, with back, those before it, the nearest one first.
func aheadOf(a args, back bool) []api.Entry {
	if !back {
		return a.r.Entries[a.w.At:]
	}
	l := slices.Clone(a.r.Entries[:a.w.At])
	slices.Reverse(l)
	return l
}

// behind returns the cursor behind n entries.
func behind(a args, n int, back bool) api.WaCursor {
	if back {
		return at(a.w.At - n)
	}
	return at(a.w.At + n)
}

// takeOf is what Take must return without an error.
func takeOf(a args) result {
	back, most := a.n < 0, max(a.n, -a.n)
	l := aheadOf(a, back)
	l = l[:min(most, len(l))]
	return result{l: l, w: behind(a, len(l), back)}
}

// findOf is what Next, Prev and Skip must return without an error but ErrEnd.
func findOf(a args, counts func(api.Entry) bool, back bool) result {
	l := aheadOf(a, back)
	i := slices.IndexFunc(l, counts)
	if i < 0 {
		return result{w: a.w, e: api.ErrEnd}
	}
	return result{x: l[i], w: behind(a, i+1, back)}
}

// brief returns the beginning of what there is, for messages.
func brief(x any) string {
	s := fmt.Sprintf("%+q", x)
	if len(s) > 300 {
		return fmt.Sprintf("%s .. (%d)", s[:300], len(s))
	}
	return s
}

// checkAll checks what each function returns.
func checkAll(t *testing.T, a args) {
	t.Helper()
	got, want := callAll(a), wantAll(a)
	for i := range want {
		if !same(got[i], want[i]) {
			t.Errorf("%s: %s, want %s", brief(a), brief(got[i]), brief(want[i]))
		}
	}
}

// checkOne checks one result.
func checkOne(t *testing.T, got, want result) {
	t.Helper()
	if !same(got, want) {
		t.Errorf("%s, want %s", brief(got), brief(want))
	}
}

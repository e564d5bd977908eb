package runs_test

import (
	"bytes"
	"fmt"
	"slices"
	"strings"
	"testing"

	"bookend/api"
)

// put and del are entries.
func put(key, val string, seq int64) api.Entry { return api.Entry{Key: key, Val: val, Seq: seq} }
func del(key string, seq int64) api.Entry      { return api.Entry{Key: key, Dead: true, Seq: seq} }

// run is a run of entries, keyed one of entries with these keys, each third one of which is a tombstone.
func run(id int, l ...api.Entry) api.Run { return api.Run{Id: id, Entries: l} }
func keyed(id int, keys ...string) api.Run {
	r := run(id)
	for i, k := range keys {
		if i%3 == 1 {
			r.Entries = append(r.Entries, del(k, int64(i+1)))
		} else {
			r.Entries = append(r.Entries, put(k, "v"+k[:min(len(k), 9)], int64(i+1)))
		}
	}
	return r
}

// from and upTo are ranges.
func from(low string) api.KeRange       { return api.KeRange{Low: low} }
func upTo(low, high string) api.KeRange { return api.KeRange{Low: low, High: high, Bound: true} }

// repeat is strings.Repeat with a shorter name.
func repeat(s string, n int) string { return strings.Repeat(s, n) }

// sameRun reports whether two runs are equal.
func sameRun(a, b api.Run) bool { return a.Id == b.Id && slices.Equal(a.Entries, b.Entries) }

// under reports whether the key a is less than the key b.
func under(a, b string) bool { return bytes.Compare([]byte(a), []byte(b)) < 0 }

// inRange reports whether the range has the key.
func inRange(x api.KeRange, k string) bool {
	return !under(k, x.Low) && (!x.Bound || under(k, x.High))
}

// keyErr is the error of a key.
func keyErr(k string) api.Errno {
	if len(k) >= 33 {
		return api.ErrLong
	}
	return api.OK
}

// rangeErr is the error of a range.
func rangeErr(x api.KeRange) api.Errno {
	switch {
	case len(x.Low) >= 33, len(x.High) >= 33:
		return api.ErrLong
	case x.High > "" && !x.Bound:
		return api.ErrForm
	}
	return api.OK
}

// entryErr is the error of an entry.
func entryErr(x api.Entry) api.Errno {
	switch {
	case len(x.Key) >= 33, len(x.Val) >= 65:
		return api.ErrLong
	case x.Dead && x.Val > "":
		return api.ErrForm
	case x.Seq <= 0, x.Seq > 1e9:
		return api.ErrRange
	}
	return api.OK
}

// runErr is what Check must return.
func runErr(r api.Run) (int, api.Errno) {
	switch {
	case r.Id <= 0, r.Id > 1e6:
		return -1, api.ErrRange
	case len(r.Entries) >= 5001:
		return -1, api.ErrLong
	}
	for i, x := range r.Entries {
		if e := entryErr(x); e != api.OK {
			return i, e
		}
		if i > 0 && !under(r.Entries[i-1].Key, x.Key) {
			return i, api.ErrForm
		}
	}
	return 0, api.OK
}

// errOf is the error of a run alone.
func errOf(r api.Run) api.Errno {
	_, e := runErr(r)
	return e
}

// firstErr is the first one that is an error.
func firstErr(l ...api.Errno) api.Errno {
	for _, e := range l {
		if e != api.OK {
			return e
		}
	}
	return api.OK
}

// best returns the entry whose key counts, and is nearer to the given one than those of all others that count.
func best(r api.Run, key string, counts func(k string) bool, nearer func(a, b string) bool) (api.Entry, api.Errno) {
	if e := firstErr(errOf(r), keyErr(key)); e != api.OK {
		return api.Entry{}, e
	}
	found, e := api.Entry{}, api.ErrNone
	for _, x := range r.Entries {
		if counts(x.Key) && (e == api.ErrNone || nearer(x.Key, found.Key)) {
			found, e = x, api.OK
		}
	}
	return found, e
}

// getOf, floorOf and ceilingOf are what Get, Floor and Ceiling must return.
func getOf(r api.Run, key string) (api.Entry, api.Errno) {
	return best(r, key, func(k string) bool { return k == key }, under)
}

func floorOf(r api.Run, key string, strict bool) (api.Entry, api.Errno) {
	return best(r, key, func(k string) bool { return under(k, key) || !strict && k == key }, func(a, b string) bool { return under(b, a) })
}

func ceilingOf(r api.Run, key string, strict bool) (api.Entry, api.Errno) {
	return best(r, key, func(k string) bool { return under(key, k) || !strict && k == key }, under)
}

// partOf is what Part must return.
func partOf(r api.Run, x api.KeRange) (int, int, api.Errno) {
	if e := firstErr(errOf(r), rangeErr(x)); e != api.OK {
		return 0, 0, e
	}
	low, high := 0, 0
	for _, y := range r.Entries {
		if under(y.Key, x.Low) {
			low++
		}
		if !x.Bound || under(y.Key, x.High) {
			high++
		}
	}
	if high < low {
		high = low
	}
	return low, high, api.OK
}

// countOf is what Count must return.
func countOf(r api.Run, x api.KeRange) (int, int, api.Errno) {
	if e := firstErr(errOf(r), rangeErr(x)); e != api.OK {
		return 0, 0, e
	}
	live, dead := 0, 0
	for _, y := range r.Entries {
		switch {
		case !inRange(x, y.Key):
		case y.Dead:
			dead++
		default:
			live++
		}
	}
	return live, dead, api.OK
}

// coverOf is what Cover must return.
func coverOf(r api.Run) (api.KeRange, api.Errno) {
	if e := errOf(r); e != api.OK {
		return api.KeRange{}, e
	}
	if len(r.Entries) == 0 {
		return api.KeRange{}, api.ErrNone
	}
	low, last := r.Entries[0].Key, r.Entries[len(r.Entries)-1].Key
	if len(last) < 32 {
		return upTo(low, last+"\x00"), api.OK
	}
	short := last
	for strings.HasSuffix(short, "\xff") {
		short = short[:len(short)-1]
	}
	if short == "" {
		return from(low), api.OK
	}
	high := []byte(short)
	high[len(high)-1]++
	return upTo(low, string(high)), api.OK
}

// overlapOf is what Overlap must return: neither run ends before the other one begins.
func overlapOf(a, b api.Run) (bool, api.Errno) {
	if e := firstErr(errOf(a), errOf(b)); e != api.OK {
		return false, e
	}
	n, m := len(a.Entries), len(b.Entries)
	return n > 0 && m > 0 && !under(a.Entries[n-1].Key, b.Entries[0].Key) && !under(b.Entries[m-1].Key, a.Entries[0].Key), api.OK
}

// allOf returns all strings of at most most of the letters, ascending.
func allOf(letters string, most int) []string {
	l := []string{""}
	for at := 0; at < len(l) && len(l[at]) < most; at++ {
		for i := range len(letters) {
			l = append(l, l[at]+letters[i:i+1])
		}
	}
	return sorted(l)
}

// sorted returns the keys, ascending, each once.
func sorted(keys []string) []string {
	l := slices.Clone(keys)
	slices.SortFunc(l, func(a, b string) int { return bytes.Compare([]byte(a), []byte(b)) })
	return slices.Compact(l)
}

// numbered returns n keys of two bytes, ascending.
func numbered(n int) []string {
	var l []string
	for i := range n {
		l = append(l, string([]byte{byte(i >> 8), byte(i)}))
	}
	return l
}

// edgeKeys returns keys, ascending, at which an order could go wrong, also of the greatest length.
func edgeKeys() []string {
	return []string{
		"", "\x00", "\x00\x00", "a", "a\x00", "a\x00b", "ab", "a\xff", repeat("b", 31) + "a", repeat("b", 31) + "\xff", "c", "\x7f", "\x7f\xff", "\x80", "é", "\xfe\xff",
		"\xff", "\xff\x00", repeat("\xff", 31), repeat("\xff", 31) + "\x00", repeat("\xff", 31) + "\xfe", repeat("\xff", 32),
	}
}

// near returns the keys, and what is just below and above each of them.
func near(keys []string) []string {
	var l []string
	for _, k := range keys {
		l = append(l, k)
		if len(k) > 0 {
			l = append(l, k[:len(k)-1])
		}
		if len(k) < 32 {
			l = append(l, k+"\x00", k+repeat("\xff", 32-len(k)))
		}
	}
	return sorted(l)
}

// wrongKeys returns what is no key.
func wrongKeys() []string {
	return []string{repeat("k", 33), repeat("\x00", 33), repeat("\xff", 33), repeat("k", 1<<20)}
}

// wrongRanges returns what is no range, with each error, and with both.
func wrongRanges() []api.KeRange {
	return []api.KeRange{
		{High: "b"}, {Low: "a", High: "\x00"}, {Low: "b", High: "a"}, from(repeat("k", 33)), upTo("a", repeat("k", 33)), upTo(repeat("k", 33), "a"), {Low: "a", High: repeat("k", 33)}, {Low: repeat("k", 33), High: "b"},
	}
}

// someIds returns ids, and wrongIds what is none.
func someIds() []int  { return []int{1, 2, 7, 10, 65536, 999999, 1000000} }
func wrongIds() []int { return []int{0, -1, -7, 1000001, 1<<32 + 1, 1<<63 - 1, -1 << 63} }

// wrongRuns returns what is no run, with each error, and with several.
func wrongRuns() []api.Run {
	full := keyed(7, numbered(5001)...)
	l := []api.Run{
		keyed(1, "b", "a"), keyed(1, "a", "a"), keyed(2, "a", "c", "b"), keyed(3, "a", "b", "b"), keyed(4, "\x80", "\x7f"), keyed(5, "", ""), keyed(6, "ab", "a"), keyed(1, "c", "b", repeat("k", 33)), keyed(1, "c", repeat("k", 33), "b"),
		keyed(1, repeat("k", 33)), keyed(1, "a", repeat("k", 33)), keyed(1e6, "a", "b", repeat("\xff", 33), "a"), run(1, put("k", repeat("v", 65), 1)), run(1, put("a", "", 1), put("k", "", 0)), run(1, put("k", "", 1e9+1)), run(1, put("k", "", -1<<63)), run(1, api.Entry{}),
		run(1, api.Entry{Key: "k", Val: "v", Dead: true, Seq: 1}), run(1, put("a", "", 1), api.Entry{Key: "a", Val: "v", Dead: true}), run(1, put("b", "", 1), put("a", "", 0)), run(1, put("b", "", 1), put("a", repeat("v", 65), 0)),
		full, {Id: 1, Entries: make([]api.Entry, 5001)}, {Id: 1, Entries: make([]api.Entry, 5000)}, run(7, append(slices.Clone(full.Entries[:4999]), full.Entries[0])...), run(7, append(slices.Clone(full.Entries[:4999]), put("\xff", "", 0))...),
	}
	for _, id := range wrongIds() {
		l = append(l, run(id), keyed(id, "a", "b"), keyed(id, "b", "a"), keyed(id, repeat("k", 33)))
	}
	return append(l, api.Run{Entries: full.Entries})
}

// someRuns returns runs: of no entries, of all lengths up to some, of keys that are near to each other, and of 4999 and 5000 entries.
func someRuns() []api.Run {
	edges := edgeKeys()
	l := []api.Run{run(1), {Id: 1e6, Entries: []api.Entry{}}, keyed(7, "a", "c", "e"), keyed(1, numbered(4999)...), keyed(1e6, numbered(5000)...)}
	for n := range edges {
		l = append(l, keyed(n+1, edges[n]), keyed(n+1, edges[:n+1]...), keyed(n+1, edges[n:]...))
	}
	for _, n := range []int{7, 8, 9, 15, 16, 17, 31, 32, 33, 34, 48, 49, 63, 64, 65, 127, 128, 129, 1000} {
		l = append(l, keyed(n, numbered(n)...))
	}
	d := &dice{1}
	for range 40 {
		l = append(l, keyed(d.roll(1e6)+1, d.some(edges, 2)...), keyed(d.roll(1e6)+1, d.some(allOf("\x00a\xff", 4), 3)...))
	}
	return l
}

// A dice yields numbers, the same ones each time.
type dice struct{ x uint32 }

// roll returns a number from 0 to n - 1.
func (d *dice) roll(n int) int {
	d.x = d.x*1664525 + 1013904223
	return int(d.x>>8) % n
}

// some returns some of the strings, in their order: one of so many.
func (d *dice) some(l []string, oneOf int) []string {
	var out []string
	for _, s := range l {
		if d.roll(oneOf) == 0 {
			out = append(out, s)
		}
	}
	return out
}

// brief returns what there is, or its beginning, for messages.
func brief(x ...any) string {
	s := fmt.Sprintf("%+q", x)
	if len(s) > 300 {
		return fmt.Sprintf("%s .. (%d)", s[:300], len(s))
	}
	return s
}

// checkOne checks a result and an error.
func checkOne[T comparable](t *testing.T, call string, got T, e api.Errno, want T, we api.Errno, args ...any) {
	t.Helper()
	if got != want || e != we {
		t.Errorf("%s of %s: %.300q, %d, want %.300q, %d", call, brief(args...), fmt.Sprint(got), e, fmt.Sprint(want), we)
	}
}

// checkTwo checks two numbers and an error.
func checkTwo(t *testing.T, call string, n, m int, e api.Errno, wantN, wantM int, we api.Errno, args ...any) {
	t.Helper()
	if n != wantN || m != wantM || e != we {
		t.Errorf("%s of %s: %d, %d, %d, want %d, %d, %d", call, brief(args...), n, m, e, wantN, wantM, we)
	}
}

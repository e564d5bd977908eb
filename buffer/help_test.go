package buffer_test

import (
	"bytes"
	"fmt"
	"math/rand"
	"slices"
	"strings"
	"testing"

	"bookend/api"
	"bookend/buffer"
)

// put and del are entries.
func put(key, val string, seq int64) api.Entry { return api.Entry{Key: key, Val: val, Seq: seq} }
func del(key string, seq int64) api.Entry      { return api.Entry{Key: key, Dead: true, Seq: seq} }

// list is a list of entries, of a buffer with these.
func list(l ...api.Entry) []api.Entry          { return l }
func of(most int, l ...api.Entry) api.BfBuffer { return api.BfBuffer{Most: most, Entries: l} }

// repeat is strings.Repeat with a shorter name.
func repeat(s string, n int) string { return strings.Repeat(s, n) }

// keyed is entries with these keys, numbered from seq on; each third one is a tombstone. Those with other numbers differ from them.
func keyed(seq int64, keys ...string) []api.Entry {
	var l []api.Entry
	for i, k := range keys {
		n := seq + int64(i)
		if n%3 == 2 {
			l = append(l, del(k, n))
		} else {
			l = append(l, put(k, fmt.Sprint("v", n), n))
		}
	}
	return l
}

// lettered returns n keys, ascending.
func lettered(n int) []string {
	var l []string
	for i := range n {
		l = append(l, string([]byte{byte('a' + i)}))
	}
	return l
}

// edgeKeys returns keys, ascending, at which an order could go wrong, also of the greatest length.
func edgeKeys() []string {
	return []string{"", "\x00", "\x00\x00", "A", "a", "a\x00", "aa", "ab", repeat("b", 31), repeat("b", 32), "c", "\x7f", "\x80", "é", "\xff", "\xff\x00", repeat("\xff", 31) + "\xfe", repeat("\xff", 32)}
}

// wrongKeys returns what is no key.
func wrongKeys() []string {
	return []string{repeat("k", 33), repeat("\x00", 33), repeat("\xff", 33), repeat("k", 1<<20)}
}

// wrongEntries returns entries with each error, and with several.
func wrongEntries() []api.Entry {
	return list(
		put(repeat("k", 33), "", 1), put("k", repeat("v", 65), 1), put(repeat("\xff", 33), repeat("v", 65), 0), del(repeat("k", 33), 0),
		api.Entry{Key: "k", Val: "v", Dead: true, Seq: 1}, api.Entry{Key: "k", Val: "\x00", Dead: true}, api.Entry{Key: "k", Val: repeat("v", 65), Dead: true, Seq: 1},
		put("k", "v", 0), put("k", "v", 1e9+1), put("k", "", -1<<63), put("k", "", 1<<63-1), put("k", "", 1<<32+1), del("k", -1), api.Entry{},
	)
}

// wrongMosts returns what cannot be Most, wrongIds what is no id of a run, someIds ids.
func wrongMosts() []int { return []int{0, -1, -16, 17, 32, 1<<32 + 1, 1<<63 - 1, -1 << 63} }
func wrongIds() []int   { return []int{0, -1, -7, 1000001, 1<<32 + 1, 1<<63 - 1, -1 << 63} }
func someIds() []int    { return []int{1, 2, 7, 65536, 999999, 1000000} }

// rows returns all rows of up to n of these keys.
func rows(n int, keys ...string) [][]string {
	all := [][]string{nil}
	for at := 0; at < len(all); at++ {
		for _, k := range keys {
			if len(all[at]) < n {
				all = append(all, append(slices.Clone(all[at]), k))
			}
		}
	}
	return all
}

// subsets returns all lists of some of the keys, in their order.
func subsets(keys ...string) [][]string {
	all := [][]string{nil}
	for _, k := range keys {
		for _, l := range all {
			all = append(all, append(slices.Clone(l), k))
		}
	}
	return all
}

// smallBuffers returns all buffers with some of these keys that are full, or have room for up to two entries more.
func smallBuffers(keys ...string) []api.BfBuffer {
	var all []api.BfBuffer
	for _, some := range subsets(keys...) {
		for room := range 3 {
			if most := len(some) + room; most > 0 {
				all = append(all, of(most, keyed(1, some...)...))
			}
		}
	}
	return all
}

// randomBuffer returns a buffer with some of the edge keys, in which some numbers are twice.
func randomBuffer(r *rand.Rand) api.BfBuffer {
	b := of(1 + r.Intn(16))
	n := r.Intn(b.Most + 1)
	all := edgeKeys()
	for i, k := range all {
		if r.Intn(len(all)-i) < n-len(b.Entries) {
			b.Entries = append(b.Entries, keyed(1+r.Int63n(20), k)...)
		}
	}
	return b
}

// randomBatch returns up to n entries of the edge keys.
func randomBatch(r *rand.Rand, n int) []api.Entry {
	var l []api.Entry
	for range r.Intn(n + 1) {
		l = append(l, keyed(1+r.Int63n(1e9), edgeKeys()[r.Intn(18)])...)
	}
	return l
}

// randomBuffers returns buffers of each size.
func randomBuffers(n int) []api.BfBuffer {
	r := rand.New(rand.NewSource(14))
	var all []api.BfBuffer
	for range n {
		all = append(all, randomBuffer(r))
	}
	return all
}

// wrongBuffers returns what is no buffer, with each error, and with several.
func wrongBuffers() []api.BfBuffer {
	long := repeat("k", 33)
	full := keyed(1, lettered(17)...)
	all := []api.BfBuffer{
		{}, of(16, full...), of(15, full[:16]...), of(1, full[:2]...), of(1, full...), of(16, make([]api.Entry, 17)...), of(1, make([]api.Entry, 6000)...), of(1, keyed(1, "b", "a")...), of(2, keyed(1, "a", "b", long)...),
		of(2, keyed(1, "b", "a")...), of(2, keyed(1, "a", "a")...), of(2, keyed(9, "", "")...), of(3, keyed(1, "a", "c", "b")...), of(3, keyed(1, "c", "b", "a")...), of(3, keyed(1, "a", "b", "b")...), of(2, keyed(1, "\x80", "\x7f")...), of(2, keyed(1, "ab", "a")...), of(2, put("a", "", 5), put("a", "", 4)),
		of(4, keyed(1, "b", "a", long)...), of(4, keyed(1, "b", long, "a")...), of(4, keyed(1, long, "b", "a")...), of(2, put("b", "", 1), put("a", "", 0)), of(2, put("b", "", 1), put("a", repeat("v", 65), 0)), of(16, make([]api.Entry, 16)...),
	}
	for i, x := range wrongEntries() {
		all = append(all, of(1, x), of(2, put("a", "", 1), x), of(16, x, put("a", "", 1)))
		late := append(slices.Clone(full[:15-i%3]), x)
		all = append(all, of(16, late...), of(len(late)-1, late...))
	}
	for _, most := range wrongMosts() {
		all = append(all, of(most), of(most, full[:1]...), of(most, full...), of(most, keyed(1, "b", "a")...), of(most, put(long, "", 1)))
	}
	return all
}

// A result is what a function returned; what it does not have is zero.
type result struct {
	call string
	n    int
	is   bool
	x    api.Entry
	l    []api.Entry
	b    api.BfBuffer
	r    api.Run
	e    api.Errno
}

// sameBuffer, sameRun and same report whether two of them are equal.
func sameBuffer(a, b api.BfBuffer) bool {
	return a.Most == b.Most && slices.Equal(a.Entries, b.Entries)
}
func sameRun(a, b api.Run) bool { return a.Id == b.Id && slices.Equal(a.Entries, b.Entries) }
func same(a, b result) bool {
	return a.call == b.call && a.n == b.n && a.is == b.is && a.x == b.x && slices.Equal(a.l, b.l) && sameBuffer(a.b, b.b) && sameRun(a.r, b.r) && a.e == b.e
}

// An args has what all functions are called with. Write gets the first entry of l.
type args struct {
	b   api.BfBuffer
	key string
	l   []api.Entry
	id  int
	seq int64
}

// first is the first entry of a list, or none.
func first(l []api.Entry) api.Entry { return append(slices.Clip(l), api.Entry{})[0] }

// callAll calls each function.
func callAll(a args) []result {
	var out [8]result
	for i, name := range []string{"New", "Check", "Get", "Fits", "Write", "Batch", "Seal", "Since"} {
		out[i].call = name
	}
	out[0].b, out[0].e = buffer.New(a.b.Most)
	out[1].n, out[1].e = buffer.Check(a.b)
	out[2].x, out[2].e = buffer.Get(a.b, a.key)
	out[3].is, out[3].e = buffer.Fits(a.b, a.l)
	out[4].b, out[4].n, out[4].e = buffer.Write(a.b, first(a.l))
	out[5].b, out[5].n, out[5].e = buffer.Batch(a.b, a.l)
	out[6].r, out[6].b, out[6].e = buffer.Seal(a.b, a.id)
	out[7].l, out[7].e = buffer.Since(a.b, a.seq)
	return out[:]
}

// wantAll is what each function must return.
func wantAll(a args) []result {
	write := batchOf(a.b, list(first(a.l)))
	write.call = "Write"
	return []result{newOf(a.b.Most), checkOf(a.b), getOf(a.b, a.key), fitsOf(a.b, a.l), write, batchOf(a.b, a.l), sealOf(a.b, a.id), sinceOf(a.b, a.seq)}
}

// brief returns what there is, or its beginning, for messages.
func brief(x ...any) string {
	s := fmt.Sprintf("%+q", x)
	if len(s) > 400 {
		return fmt.Sprintf("%s .. (%d)", s[:400], len(s))
	}
	return s
}

// checkAll checks all functions.
func checkAll(t *testing.T, a args) {
	t.Helper()
	want := wantAll(a)
	for i, got := range callAll(a) {
		checkOne(t, a, got, want[i])
	}
}

// checkOne checks a result.
func checkOne(t *testing.T, of any, got, want result) {
	t.Helper()
	if !same(got, want) {
		t.Errorf("%s of %s: %s, want %s", got.call, brief(of), brief(got), brief(want))
	}
}

// under reports whether the key a is less than the key b.
func under(a, b string) bool { return bytes.Compare([]byte(a), []byte(b)) == -1 }

// keyErr is the error of a key.
func keyErr(k string) api.Errno {
	if len(k) >= 33 {
		return api.ErrLong
	}
	return api.OK
}

// entryErr is the error of an entry.
func entryErr(x api.Entry) api.Errno {
	switch {
	case len(x.Key) >= 33, len(x.Val) >= 65:
		return api.ErrLong
	case x.Dead && x.Val > "":
		return api.ErrForm
	case x.Seq <= 0, x.Seq > 1e9:
		return api.ErrRange
	}
	return api.OK
}

// newOf is what New must return.
func newOf(most int) result {
	if most <= 0 || most >= 17 {
		return result{call: "New", e: api.ErrRange}
	}
	return result{call: "New", b: of(most)}
}

// checkOf is what Check must return.
func checkOf(b api.BfBuffer) result {
	switch {
	case newOf(b.Most).e != api.OK:
		return result{call: "Check", e: api.ErrRange}
	case len(b.Entries) > b.Most:
		return result{call: "Check", e: api.ErrLong}
	}
	for i, x := range b.Entries {
		if e := entryErr(x); e != api.OK {
			return result{call: "Check", n: i, e: e}
		}
		if i > 0 && !under(b.Entries[i-1].Key, x.Key) {
			return result{call: "Check", n: i, e: api.ErrForm}
		}
	}
	return result{call: "Check"}
}

// getOf is what Get must return.
func getOf(b api.BfBuffer, key string) result {
	if e := firstErr(checkOf(b).e, keyErr(key)); e != api.OK {
		return result{call: "Get", e: e}
	}
	for _, x := range b.Entries {
		if x.Key == key {
			return result{call: "Get", x: x}
		}
	}
	return result{call: "Get", e: api.ErrNone}
}

// firstErr is the first one that is an error.
func firstErr(l ...api.Errno) api.Errno {
	for _, e := range l {
		if e != api.OK {
			return e
		}
	}
	return api.OK
}

// batchErr is the error of a buffer, or of a list of entries that are to be written.
func batchErr(b api.BfBuffer, l []api.Entry) api.Errno {
	e := checkOf(b).e
	if e == api.OK && len(l) >= 17 {
		e = api.ErrLong
	}
	for _, x := range l {
		e = firstErr(e, entryErr(x))
	}
	return e
}

// fitsOf is what Fits must return: it counts the keys of both.
func fitsOf(b api.BfBuffer, l []api.Entry) result {
	if e := batchErr(b, l); e != api.OK {
		return result{call: "Fits", e: e}
	}
	keys := map[string]int{}
	for _, x := range slices.Concat(b.Entries, l) {
		keys[x.Key]++
	}
	return result{call: "Fits", is: len(keys) <= b.Most}
}

// batchOf is what Batch must return.
func batchOf(b api.BfBuffer, l []api.Entry) result {
	fit := fitsOf(b, l)
	switch {
	case fit.e != api.OK:
		return result{call: "Batch", e: fit.e}
	case !fit.is:
		return result{call: "Batch", e: api.ErrFull}
	}
	table, work := tableOf(b), 0
	for _, x := range l {
		work++
		for k := range table {
			if under(x.Key, k) {
				work++
			}
		}
		table[x.Key] = x
	}
	return result{call: "Batch", b: fromTable(b.Most, table), n: work}
}

// tableOf returns the entries of a buffer by their keys, fromTable the buffer that has such entries.
func tableOf(b api.BfBuffer) map[string]api.Entry {
	table := map[string]api.Entry{}
	for _, x := range b.Entries {
		table[x.Key] = x
	}
	return table
}
func fromTable(most int, table map[string]api.Entry) api.BfBuffer {
	b := of(most)
	for _, x := range table {
		b.Entries = append(b.Entries, x)
	}
	slices.SortFunc(b.Entries, func(x, y api.Entry) int { return bytes.Compare([]byte(x.Key), []byte(y.Key)) })
	return b
}

// sealOf is what Seal must return.
func sealOf(b api.BfBuffer, id int) result {
	e := checkOf(b).e
	if len(b.Entries) == 0 {
		e = firstErr(e, api.ErrDown)
	}
	if id <= 0 || id > 1e6 {
		e = firstErr(e, api.ErrRange)
	}
	if e != api.OK {
		return result{call: "Seal", e: e}
	}
	return result{call: "Seal", r: api.Run{Id: id, Entries: b.Entries}, b: of(b.Most)}
}

// sinceOf is what Since must return: of what is left the entry comes next that comes before all others.
func sinceOf(b api.BfBuffer, seq int64) result {
	e := checkOf(b).e
	if seq < 0 {
		e = firstErr(e, api.ErrRange)
	}
	if e != api.OK {
		return result{call: "Since", e: e}
	}
	left := slices.DeleteFunc(slices.Clone(b.Entries), func(x api.Entry) bool { return x.Seq <= seq })
	var l []api.Entry
	for len(left) > 0 {
		next := 0
		for i, x := range left {
			if y := left[next]; x.Seq < y.Seq || x.Seq == y.Seq && under(x.Key, y.Key) {
				next = i
			}
		}
		l = append(l, left[next])
		left = slices.Delete(left, next, next+1)
	}
	return result{call: "Since", l: l}
}

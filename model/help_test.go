package model_test

import (
	"fmt"
	"maps"
	"slices"
	"strings"
	"testing"

	"bookend/api"
)

// put and del are writes.
func put(key, val string) api.OpWrite { return api.OpWrite{Key: key, Val: val} }
func del(key string) api.OpWrite      { return api.OpWrite{Key: key, Dead: true} }

// batch is a list of writes.
func batch(l ...api.OpWrite) []api.OpWrite { return l }

// pairs returns pairs of keys and values, in turn.
func pairs(l ...string) []api.Pair {
	var out []api.Pair
	for i := 0; i < len(l); i += 2 {
		out = append(out, api.Pair{Key: l[i], Val: l[i+1]})
	}
	return out
}

// repeat is strings.Repeat with a shorter name.
func repeat(s string, n int) string { return strings.Repeat(s, n) }

// Handles, and ranges.
func handle(index, gen int) api.Handle   { return api.Handle{Index: index, Gen: gen} }
func from(low string) api.KeRange        { return api.KeRange{Low: low} }
func upTo(low, high string) api.KeRange  { return api.KeRange{Low: low, High: high, Bound: true} }
func wrong(low, high string) api.KeRange { return api.KeRange{Low: low, High: high} }

// above reports whether the key a is above b.
func above(a, b string) bool { return slices.Compare([]byte(a), []byte(b)) > 0 }

// mapErr is what Check must return.
func mapErr(m []api.Pair) (int, api.Errno) {
	if len(m) >= 4001 {
		return -1, api.ErrFull
	}
	last := ""
	for i, p := range m {
		switch {
		case len(p.Key) >= 33, len(p.Val) >= 65:
			return i, api.ErrLong
		case i > 0 && !above(p.Key, last):
			return i, api.ErrForm
		}
		last = p.Key
	}
	return 0, api.OK
}

// errOf is the error of Check.
func errOf(m []api.Pair) api.Errno {
	_, e := mapErr(m)
	return e
}

// keyErr is the error of a key.
func keyErr(key string) api.Errno {
	if len(key) >= 33 {
		return api.ErrLong
	}
	return api.OK
}

// rangeErr is the error of a range.
func rangeErr(r api.KeRange) api.Errno {
	switch {
	case len(r.Low) >= 33, len(r.High) >= 33:
		return api.ErrLong
	case !r.Bound && r.High != "":
		return api.ErrForm
	}
	return api.OK
}

// batchErr is the error of writes, as Write must return it for a map that has room for them.
func batchErr(l []api.OpWrite) api.Errno {
	switch {
	case len(l) == 0:
		return api.ErrForm
	case len(l) >= 9:
		return api.ErrLong
	}
	for _, w := range l {
		switch {
		case len(w.Key) >= 33, len(w.Val) >= 65:
			return api.ErrLong
		case w.Dead && len(w.Val) > 0:
			return api.ErrForm
		}
	}
	return api.OK
}

// firstErr is the first one that is an error.
func firstErr(l ...api.Errno) api.Errno {
	for _, e := range l {
		if e != api.OK {
			return e
		}
	}
	return api.OK
}

// hashed returns pairs as a map of Go, and listed the pairs of such a map, ascending.
func hashed(m []api.Pair) map[string]string {
	h := map[string]string{}
	for _, p := range m {
		h[p.Key] = p.Val
	}
	return h
}

func listed(h map[string]string) []api.Pair {
	var m []api.Pair
	for _, k := range slices.Sorted(maps.Keys(h)) {
		m = append(m, api.Pair{Key: k, Val: h[k]})
	}
	return m
}

// afterAll is what Write must return.
func afterAll(m []api.Pair, l []api.OpWrite) ([]api.Pair, api.Errno) {
	if e := firstErr(errOf(m), batchErr(l)); e != api.OK {
		return nil, e
	}
	h := hashed(m)
	for _, w := range l {
		if w.Dead {
			delete(h, w.Key)
		} else {
			h[w.Key] = w.Val
		}
	}
	if len(h) > 4000 {
		return nil, api.ErrFull
	}
	return listed(h), api.OK
}

// partOf is what Part must return.
func partOf(m []api.Pair, r api.KeRange) ([]api.Pair, api.Errno) {
	if e := firstErr(errOf(m), rangeErr(r)); e != api.OK {
		return nil, e
	}
	var part []api.Pair
	for _, p := range m {
		if !above(r.Low, p.Key) && (!r.Bound || above(r.High, p.Key)) {
			part = append(part, p)
		}
	}
	return part, api.OK
}

// numbered returns n pairs, ascending, whose keys begin with the prefix.
func numbered(prefix string, n int) []api.Pair {
	var m []api.Pair
	for i := range n {
		m = append(m, api.Pair{Key: fmt.Sprintf("%s%04d", prefix, i), Val: fmt.Sprint(i % 7)})
	}
	return m
}

// edgeKeys are keys at which an order could go wrong, ascending.
func edgeKeys() []string {
	return []string{"", "\x00", "\x00\x00", "a", "a\x00", "ab", "b", "\x7f", "\x80", "é", "\xff", repeat("\xff", 31), repeat("\xff", 32)}
}

// wrongMaps returns what is no map: with each error, and with several.
func wrongMaps() [][]api.Pair {
	key, val := repeat("k", 33), repeat("v", 65)
	full := numbered("", 4001)
	return [][]api.Pair{
		pairs(key, ""), pairs("a", val), pairs(key, val), pairs("b", "", "a", ""), pairs("a", "1", "a", "2"), pairs("a", "", "a", ""), pairs("", "", "", ""), pairs("\x80", "", "\x7f", ""), pairs("ab", "", "a", ""),
		pairs("a", "", "b", "", "b", val), pairs("b", "", "a", val), pairs("b", "", "a", "", key, ""), pairs("z", "", key, "", "a", ""), pairs("a", val, "b", "", "a", ""), full, slices.Concat(full, pairs("", "")), append(pairs(key, val, "", ""), full...), make([]api.Pair, 4000), make([]api.Pair, 4001), make([]api.Pair, 1<<16),
	}
}

// someMaps returns maps: short ones, with edges as keys, with the longest keys and values, and full ones.
func someMaps() [][]api.Pair {
	var edges []api.Pair
	for i, k := range edgeKeys() {
		edges = append(edges, api.Pair{Key: k, Val: repeat("v", i*64/12)})
	}
	return [][]api.Pair{
		nil, {}, pairs("", ""), pairs("a", "1"), pairs("a", "1", "c", "3"), pairs("b", "2", "c", "3"), pairs("a", "", "b", "", "c", ""), pairs("a", repeat("é", 32), repeat("é", 16), "\x00\n\""), edges, edges[1:], numbered("", 100), numbered("a", 3999), numbered("", 4000),
	}
}

// wrongBatches returns what is no batch: with each error, and with several.
func wrongBatches() [][]api.OpWrite {
	key, val := repeat("k", 33), repeat("v", 65)
	l := [][]api.OpWrite{nil, {}, make([]api.OpWrite, 9), make([]api.OpWrite, 1<<16), slices.Repeat(batch(del("a")), 9), slices.Repeat(batch(put(key, "")), 9), slices.Repeat(batch(api.OpWrite{Val: "v", Dead: true}), 9)}
	for _, w := range batch(put(key, ""), del(key), put("", val), put(key, val), api.OpWrite{Key: "a", Val: "v", Dead: true}, api.OpWrite{Val: "\x00", Dead: true}, api.OpWrite{Key: "a", Val: val, Dead: true}, api.OpWrite{Key: key, Val: "v", Dead: true}) {
		l = append(l, batch(w), batch(put("a", "9"), w), batch(w, put("a", "9")), batch(w, put(key, "")), batch(w, api.OpWrite{Val: "v", Dead: true}), append(slices.Repeat(batch(put("a", "9")), 7), w))
	}
	return l
}

// A dice yields numbers, the same ones each time.
type dice struct{ x uint32 }

// roll returns a number from 0 to n - 1.
func (d *dice) roll(n int) int {
	d.x = d.x*1664525 + 1013904223
	return int(d.x>>8) % n
}

// key returns one of few keys.
func (d *dice) key() string {
	return repeat("a", d.roll(3)) + repeat("\xff", d.roll(2))
}

// writes returns a batch with few keys.
func (d *dice) writes() []api.OpWrite {
	var l []api.OpWrite
	for range d.roll(8) + 1 {
		if d.roll(3) == 0 {
			l = append(l, del(d.key()))
		} else {
			l = append(l, put(d.key(), repeat("v", d.roll(4))))
		}
	}
	return l
}

// span returns a range with few keys as bounds, seldom one that is none.
func (d *dice) span() api.KeRange {
	r := api.KeRange{Low: d.key()[:0], Bound: d.roll(2) == 0}
	if d.roll(2) == 0 {
		r.Low = d.key()
	}
	if r.Bound || d.roll(10) == 0 {
		r.High = d.key() + "\xff"
	}
	return r
}

// brief returns what there is, or its beginning, for messages.
func brief(x any) string {
	s := fmt.Sprintf("%+q", fmt.Sprintf("%+v", x))
	if len(s) > 300 {
		return fmt.Sprintf("%s .. (%d)", s[:300], len(s))
	}
	return s
}

// checkPairs checks pairs and an error.
func checkPairs(t *testing.T, call string, got []api.Pair, e api.Errno, want []api.Pair, we api.Errno, args ...any) {
	t.Helper()
	if !slices.Equal(got, want) || e != we {
		t.Errorf("%s of %s: %s, %d, want %s, %d", call, brief(args), brief(got), e, brief(want), we)
	}
}

// checkPair checks a pair and an error.
func checkPair(t *testing.T, call string, got api.Pair, e api.Errno, want api.Pair, we api.Errno, args ...any) {
	t.Helper()
	if got != want || e != we {
		t.Errorf("%s of %s: %s, %d, want %s, %d", call, brief(args), brief(got), e, brief(want), we)
	}
}

// checkErr checks an error.
func checkErr(t *testing.T, call string, e, want api.Errno, args ...any) {
	t.Helper()
	if e != want {
		t.Errorf("%s of %s: %d, want %d", call, brief(args), e, want)
	}
}

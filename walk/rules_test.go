package walk_test

import (
	"slices"
	"testing"

	"bookend/api"
	"bookend/walk"
)

// oddArgs returns arguments of all kinds: what the functions accept, and what they do not.
func oddArgs() []args {
	tried := append(wrongKeys(), "", "a", "c", "e", "\xff")
	ranges := append(wrongRanges(), api.KeRange{}, from("b"), upTo("b", "d"), upTo("d", "b"))
	counts := append(wrongCounts(), 0, 1, -1, 2, -2, 5000, -5000)
	var out []args
	for i, r := range append(wrongRuns(), api.Run{Id: 1}, example(), keyed(edgeKeys()...), keyed(numbered(5000)...)) {
		for j, w := range append(wrongPlaces(r), at(0), at(1), at(2), at(len(r.Entries)/2), at(len(r.Entries))) {
			for k := range 8 {
				n := i + j + k
				out = append(out, args{r, w, tried[n%len(tried)], ranges[n%len(ranges)], counts[n%len(counts)]})
			}
		}
	}
	return out
}

// P1 (R1, R2, R6) and P9.8: all arguments are accepted, the same ones give the same results again, and with an error every other result is zero, but the cursor with ErrEnd.
func TestAllArguments(t *testing.T) {
	failed, passed := map[string]bool{}, map[string]bool{}
	for _, a := range oddArgs() {
		checkAll(t, a)
		first, again := callAll(a), callAll(a)
		if !slices.EqualFunc(first, again, same) {
			t.Errorf("%s: the same arguments give other results", brief(a))
		}
		for _, x := range first {
			empty := result{call: x.call, e: x.e}
			if x.e == api.ErrEnd {
				empty.w = a.w
			}
			if x.e != api.OK && (!same(x, empty) || len(x.l) > 0) {
				t.Errorf("%s: %s: there is a result beside the error", brief(a), brief(x))
			}
			failed[x.call] = failed[x.call] || x.e != api.OK
			passed[x.call] = passed[x.call] || x.e == api.OK
		}
	}
	for call, ok := range failed {
		if !ok || !passed[call] {
			t.Errorf("%s had an error: %v, and none: %v", call, ok, passed[call])
		}
	}
}

// P1 (R4): nil and empty lists are the same.
func TestEmptyLists(t *testing.T) {
	for _, id := range []int{-1, 0, 1, 1e6, 1e6 + 1} {
		for _, w := range []api.WaCursor{at(-1), at(0), at(1)} {
			for _, n := range []int{0, 1, -1, 5001} {
				want := callAll(args{r: api.Run{Id: id}, w: w, key: "a", n: n})
				for _, l := range [][]api.Entry{{}, example().Entries[:0], make([]api.Entry, 0, 9)} {
					if got := callAll(args{r: api.Run{Id: id, Entries: l}, w: w, key: "a", n: n}); !slices.EqualFunc(got, want, same) {
						t.Errorf("%d: %s, want %s", id, brief(got), brief(want))
					}
				}
			}
		}
	}
}

// P1 (R3) and P9.8: arguments are not changed, not even behind their length.
func TestArgumentsKept(t *testing.T) {
	more := keyed("y", "x").Entries
	for i, a := range oddArgs() {
		if i%5 > 0 && len(a.r.Entries) > 1000 {
			continue
		}
		l := append(slices.Clone(a.r.Entries), more...)
		before := slices.Clone(l)
		b := a
		b.r.Entries = l[:len(a.r.Entries)]
		callAll(b)
		if !slices.Equal(l, before) {
			t.Errorf("%s: an argument was changed", brief(a))
		}
	}
}

// P1 (R3) and P9.8: what Take returns shares no memory with the run, or with another result.
func TestResultsFresh(t *testing.T) {
	for _, r := range append(smallRuns(), keyed(numbered(5000)...)) {
		before := slices.Clone(r.Entries)
		n := len(r.Entries)
		for _, c := range []struct{ at, n int }{{0, 5000}, {n, -5000}, {n / 2, 5000}, {n / 2, -5000}, {0, n / 2}, {n, -n / 2}, {0, min(n, 1)}, {n, -1}, {0, 0}} {
			first, _, _ := walk.Take(r, at(c.at), c.n)
			second, _, e := walk.Take(r, at(c.at), c.n)
			first = first[:cap(first)]
			for i := range first {
				first[i] = api.Entry{Key: "scribbled", Seq: -1}
			}
			if !slices.Equal(r.Entries, before) {
				t.Fatalf("Take of %d at %d gives out the memory of the run", c.n, c.at)
			}
			want := takeOf(args{r: r, w: at(c.at), n: c.n})
			if !slices.Equal(second, want.l) || e != api.OK {
				t.Errorf("Take of %d at %d: %s, %d, want %s", c.n, c.at, brief(second), e, brief(want.l))
			}
		}
	}
}

// A step is Next or Prev.
type step func(api.Run, api.WaCursor) (api.Entry, api.WaCursor, api.Errno)

// all returns the entries that steps yield, up to ErrEnd, and where they end.
func all(r api.Run, w api.WaCursor, s step) ([]api.Entry, api.WaCursor, api.Errno) {
	var l []api.Entry
	for range 5001 {
		x, next, e := s(r, w)
		if e != api.OK {
			return l, next, e
		}
		l, w = append(l, x), next
	}
	return l, w, api.OK
}

// P9.5: from First on, Next yields all entries, in their order; from Last on, Prev yields them in the other order.
func TestBothWays(t *testing.T) {
	for _, r := range append(smallRuns(), keyed(numbered(1000)...)) {
		first, e := walk.First(r)
		last, f := walk.Last(r)
		checkOne(t, result{w: first, e: e}, result{w: at(0)})
		checkOne(t, result{w: last, e: f}, result{w: at(len(r.Entries))})
		l, w, e := all(r, first, walk.Next)
		checkOne(t, result{l: l, w: w, e: e}, result{l: r.Entries, w: last, e: api.ErrEnd})
		l, w, e = all(r, last, walk.Prev)
		slices.Reverse(l)
		checkOne(t, result{l: l, w: w, e: e}, result{l: r.Entries, w: first, e: api.ErrEnd})
	}
}

// P9.5: Next, and then Prev, return the same entry, and lead back; so do Prev and Next.
func TestThereAndBack(t *testing.T) {
	for _, r := range smallRuns() {
		for _, w := range places(r) {
			for _, s := range [][2]step{{walk.Next, walk.Prev}, {walk.Prev, walk.Next}} {
				x, there, e := s[0](r, w)
				if e == api.ErrEnd {
					continue
				}
				y, back, f := s[1](r, there)
				checkOne(t, result{x: y, w: back, e: f}, result{x: x, w: w, e: e})
			}
		}
	}
}

// P9.6: after Seek of a key are exactly the entries whose keys are not less (greater, with past); between both Seeks of a key is its entry, if there is one.
func TestSeekPlaces(t *testing.T) {
	for _, r := range smallRuns() {
		for _, key := range near(append(edgeKeys(), numbered(33)...)) {
			here, e := walk.Seek(r, key, false)
			past, f := walk.Seek(r, key, true)
			if e != api.OK || f != api.OK {
				t.Fatalf("Seek of %q: %d, %d", key, e, f)
			}
			for i, x := range r.Entries {
				if (i >= here.At) != (x.Key >= key) || (i >= past.At) != (x.Key > key) {
					t.Errorf("Seek of %q: %v, and past it %v: %q is at %d", key, here, past, x.Key, i)
				}
			}
			between, w, e := walk.Take(r, here, past.At-here.At)
			want := result{w: past}
			if i := slices.IndexFunc(r.Entries, func(x api.Entry) bool { return x.Key == key }); i >= 0 {
				want.l = r.Entries[i : i+1]
			}
			checkOne(t, result{l: between, w: w, e: e}, want)
		}
	}
}

// P9.7: Take of n, and then of m, are Take of both together, if they have the same sign; Take of n, and of -n after it, are the same entries, in the other order, if there are as many.
func TestTakePieces(t *testing.T) {
	for _, r := range smallRuns() {
		size := len(r.Entries)
		if size > 17 {
			continue
		}
		for _, w := range places(r) {
			for n := -size - 1; n <= size+1; n++ {
				l, there, e := walk.Take(r, w, n)
				back, again, f := walk.Take(r, there, -n)
				if slices.Reverse(back); e != api.OK || len(l) == max(n, -n) && (!slices.Equal(back, l) || again != w || f != api.OK) {
					t.Errorf("Take of %d of %s at %v, and back: %s, %d, %s, %v, %d", n, brief(r), w, brief(l), e, brief(back), again, f)
				}
				for m := range size + 2 {
					if n < 0 {
						m = -m
					}
					rest, w1, e1 := walk.Take(r, there, m)
					whole, w2, e2 := walk.Take(r, w, n+m)
					checkOne(t, result{l: append(slices.Clone(l), rest...), w: w1, e: e1}, result{l: whole, w: w2, e: e2})
				}
			}
		}
	}
}

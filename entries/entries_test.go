package entries_test

import (
	"math"
	"testing"

	"bookend/api"
	"bookend/entries"
)

// P3.1, Check: the limits of 32, 64, 1 and 10^9, just kept and just broken, and which error comes first.
func TestCheckCases(t *testing.T) {
	dead := func(key, val string, seq int64) api.Entry {
		return api.Entry{Key: key, Val: val, Dead: true, Seq: seq}
	}
	for i, x := range []struct {
		x    api.Entry
		want api.Errno
	}{
		{put("", "", 1), api.OK}, {put("a", "1", 5), api.OK}, {del("a", 7), api.OK}, {del("", 1), api.OK},
		{put(repeat("k", 32), repeat("v", 64), 1000000000), api.OK}, {del(repeat("\xff", 32), 1000000000), api.OK}, {put("\x00\n\"", "\x00\n\"", 1), api.OK},
		{put(repeat("k", 33), "", 1), api.ErrLong}, {put("", repeat("v", 65), 1), api.ErrLong}, {del(repeat("k", 33), 1), api.ErrLong}, {put(repeat("k", 1<<20), repeat("v", 1<<20), 1), api.ErrLong},
		{put(repeat("é", 16), repeat("é", 32), 1), api.OK}, {put(repeat("é", 17), "", 1), api.ErrLong}, {put("", repeat("é", 33), 1), api.ErrLong},
		{dead("a", "v", 1), api.ErrForm}, {dead("a", "\x00", 1), api.ErrForm}, {dead("a", repeat("v", 64), 1), api.ErrForm},
		{put("a", "v", 0), api.ErrRange}, {put("a", "v", -1), api.ErrRange}, {put("a", "v", 1000000001), api.ErrRange}, {put("a", "v", math.MinInt64), api.ErrRange}, {put("a", "v", math.MaxInt64), api.ErrRange}, {put("a", "v", 1<<32+1), api.ErrRange}, {del("a", 0), api.ErrRange}, {api.Entry{}, api.ErrRange},
		{dead("a", repeat("v", 65), 1), api.ErrLong}, {dead(repeat("k", 33), "v", 1), api.ErrLong}, {put(repeat("k", 33), "v", 0), api.ErrLong}, {put("a", repeat("v", 65), 1000000001), api.ErrLong}, {dead("a", "v", 0), api.ErrForm}, {dead("a", "v", 1000000001), api.ErrForm}, {dead(repeat("k", 33), repeat("v", 65), 0), api.ErrLong},
	} {
		if e := entries.Check(x.x); e != x.want {
			t.Errorf("%d: Check: %d, want %d", i, e, x.want)
		}
	}
}

// P3.1, Check: all entries of these parts.
func TestCheckAll(t *testing.T) {
	seen := map[api.Errno]int{}
	for _, key := range []string{"", "a", "\x00", repeat("k", 31), repeat("k", 32), repeat("k", 33), repeat("\xff", 64)} {
		for _, val := range []string{"", "v", "\x00", repeat("v", 32), repeat("v", 63), repeat("v", 64), repeat("v", 65), repeat("\xff", 1000)} {
			for _, seq := range []int64{math.MinInt64, -1000000000, -1, 0, 1, 2, 999999999, 1000000000, 1000000001, math.MaxInt64} {
				for _, dead := range []bool{false, true} {
					x := api.Entry{Key: key, Val: val, Dead: dead, Seq: seq}
					want := errOf(x)
					seen[want]++
					if e := entries.Check(x); e != want {
						t.Errorf("Check of %s: %d, want %d", brief(x), e, want)
					}
				}
			}
		}
	}
	if len(seen) != 4 {
		t.Errorf("errors: %v", seen)
	}
}

// P3.1: the examples of the chapter.
func TestPairExamples(t *testing.T) {
	a, b, c := put("a", "1", 5), del("a", 7), put("b", "2", 6)
	for i, x := range []struct {
		a, b  api.Entry
		order int
		wins  api.Entry
		e     api.Errno
	}{
		{a, b, 1, b, api.OK}, {b, a, -1, b, api.OK}, {a, c, -1, api.Entry{}, api.ErrForm}, {c, a, 1, api.Entry{}, api.ErrForm},
		{a, put("a", "9", 5), 0, a, api.OK}, {put("a", "9", 5), a, 0, put("a", "9", 5), api.OK}, {a, del("a", 5), 0, a, api.OK}, {del("a", 5), a, 0, del("a", 5), api.OK},
	} {
		if n, e := entries.Compare(x.a, x.b); n != x.order || e != api.OK {
			t.Errorf("%d: Compare: %d, %d, want %d", i, n, e, x.order)
		}
		if w, e := entries.Wins(x.a, x.b); w != x.wins || e != x.e {
			t.Errorf("%d: Wins: %v, %d, want %v, %d", i, w, e, x.wins, x.e)
		}
	}
}

// winner is what Wins must return for two entries.
func winner(a, b api.Entry) (api.Entry, api.Errno) {
	switch {
	case a.Key != b.Key:
		return api.Entry{}, api.ErrForm
	case before(b, a):
		return b, api.OK
	}
	return a, api.OK
}

// P3.1, Compare and Wins: all pairs, also of what is no entry; the error of the first one comes first.
func TestPairsAll(t *testing.T) {
	l := append(fewEntries(), wrongEntries()...)
	for _, a := range l {
		for _, b := range l {
			order, wins, we := 0, api.Entry{}, firstErr(a, b)
			oe := we
			if we == api.OK {
				if before(a, b) {
					order = -1
				} else if before(b, a) {
					order = 1
				}
				wins, we = winner(a, b)
			}
			if n, e := entries.Compare(a, b); n != order || e != oe {
				t.Errorf("Compare of %s, %s: %d, %d, want %d, %d", brief(a), brief(b), n, e, order, oe)
			}
			if w, e := entries.Wins(a, b); w != wins || e != we {
				t.Errorf("Wins of %s, %s: %s, %d, want %s, %d", brief(a), brief(b), brief(w), e, brief(wins), we)
			}
		}
	}
}

// P3.1: Compare is an order, in which keys of bytes above 127 are not below others.
func TestOrder(t *testing.T) {
	l := fewEntries()
	cmp := func(a, b api.Entry) int {
		n, e := entries.Compare(a, b)
		if e != api.OK {
			t.Fatalf("Compare of %s, %s: %d", brief(a), brief(b), e)
		}
		return n
	}
	for _, a := range l {
		for _, b := range l {
			if cmp(a, b) != -cmp(b, a) || cmp(a, a) != 0 {
				t.Errorf("Compare of %s, %s: %d, the other way round %d", brief(a), brief(b), cmp(a, b), cmp(b, a))
			}
			for _, c := range l {
				if cmp(a, b) <= 0 && cmp(b, c) <= 0 && cmp(a, c) > 0 {
					t.Errorf("Compare: %s, %s, %s are in order, but the first one is above the last one", brief(a), brief(b), brief(c))
				}
			}
		}
	}
	if cmp(put("\x7f", "", 1), put("\x80", "", 1)) != -1 || cmp(put("a", "", 1), put("a\x00", "", 2)) != -1 || cmp(put("b", "", 1), put("ab", "", 9)) != 1 {
		t.Error("Compare: keys are not in their order")
	}
}

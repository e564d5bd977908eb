package walk_test

import (
	"testing"

	"bookend/api"
	"bookend/walk"
)

// P9.4, Take: all places, with all numbers up to more than there are entries, in both directions.
func TestTake(t *testing.T) {
	for _, r := range smallRuns() {
		n := len(r.Entries)
		if n > 20 {
			continue
		}
		for _, w := range places(r) {
			for k := -n - 2; k <= n+2; k++ {
				checkAll(t, args{r: r, w: w, n: k})
			}
			checkAll(t, args{r: r, w: w, n: 5000})
			checkAll(t, args{r: r, w: w, n: -5000})
		}
	}
}

// P9.4, Take: numbers up to the greatest that is accepted, and above it, in the longest runs.
func TestTakeLimits(t *testing.T) {
	for _, n := range []int{0, 1, 4999, 5000} {
		r := keyed(numbered(n)...)
		for _, w := range []int{0, 1, n / 2, n - 1, n} {
			if w < 0 || w > n {
				continue
			}
			for _, k := range append(wrongCounts(), 0, 1, -1, 2500, -2500, 4999, -4999, 5000, -5000) {
				checkAll(t, args{r: r, w: at(w), n: k})
			}
		}
	}
	r := keyed(numbered(5000)...)
	l, w, e := walk.Take(r, at(0), 5000)
	checkOne(t, result{call: "Take", l: l, w: w, e: e}, result{call: "Take", l: r.Entries, w: at(5000)})
	for _, k := range wrongCounts() {
		l, w, e = walk.Take(r, at(1), k)
		checkOne(t, result{call: "Take", l: l, w: w, e: e}, result{call: "Take", e: api.ErrRange})
	}
}

// P9.4, Skip: all rows of up to seven live and dead entries, from all places.
func TestSkip(t *testing.T) {
	for n := range 8 {
		for kinds := range 1 << n {
			r := keyed(numbered(n)...)
			for i := range r.Entries {
				x := &r.Entries[i]
				if x.Dead = kinds>>i&1 == 1; x.Dead {
					x.Val = ""
				}
			}
			for _, w := range places(r) {
				checkAll(t, args{r: r, w: w})
			}
		}
	}
}

// P9.4, Skip: where nothing is found, the cursor is the one that was given, and not where Skip has looked last.
func TestSkipEnd(t *testing.T) {
	live := api.Run{Id: 1, Entries: []api.Entry{put("a", "", 1), put("b", "v", 2), put("c", "", 3)}}
	dead := api.Run{Id: 1, Entries: []api.Entry{del("a", 1), del("b", 2), del("c", 3)}}
	for n := range 4 {
		for _, back := range both {
			x, w, e := walk.Skip(live, at(n), true, back)
			checkOne(t, result{call: "Skip", x: x, w: w, e: e}, result{call: "Skip", w: at(n), e: api.ErrEnd})
			x, w, e = walk.Skip(dead, at(n), false, back)
			checkOne(t, result{call: "Skip", x: x, w: w, e: e}, result{call: "Skip", w: at(n), e: api.ErrEnd})
		}
	}
	r := keyed(numbered(5000)...)
	for i := range r.Entries {
		r.Entries[i].Dead, r.Entries[i].Val = i == 4999, ""
	}
	checkAll(t, args{r: r, w: at(0)})
	checkAll(t, args{r: r, w: at(4999)})
	checkAll(t, args{r: r, w: at(5000)})
}

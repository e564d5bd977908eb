package walk_test

import (
	"slices"
	"strings"
	"testing"

	"bookend/api"
	"bookend/walk"
)

// P9.1, Seek: runs of all kinds, with their keys, those of others, and what is just below and above these.
func TestSeek(t *testing.T) {
	tried := append(near(edgeKeys()), near(numbered(65))...)
	for _, r := range smallRuns() {
		for _, key := range tried {
			checkAll(t, args{r: r, key: key})
		}
	}
	for _, n := range []int{1000, 4999, 5000} {
		l := numbered(n)
		for _, key := range near([]string{"", l[0], l[1], l[n/3], l[n/2], l[n-2], l[n-1], "\xff"}) {
			checkAll(t, args{r: keyed(l...), key: key})
		}
	}
}

// P9.1, Seek: what is no key, also in runs without entries.
func TestSeekErrors(t *testing.T) {
	for _, r := range smallRuns() {
		for _, key := range wrongKeys() {
			for _, past := range both {
				w, e := walk.Seek(r, key, past)
				checkOne(t, result{call: "Seek", w: w, e: e}, result{call: "Seek", e: api.ErrLong})
			}
		}
	}
	r := keyed(strings.Repeat("k", 32))
	w, e := walk.Seek(r, strings.Repeat("k", 32), true)
	checkOne(t, result{call: "Seek", w: w, e: e}, result{call: "Seek", w: at(1)})
}

// P9.3: all cursors, with all pairs of keys as bounds, also those whose range has no keys, and ranges without Bound.
func TestClip(t *testing.T) {
	edges := edgeKeys()
	for _, r := range []api.Run{{Id: 1}, example(), keyed(edges...), keyed(edges[2:9]...), keyed(edges[3], edges[5], edges[9], edges[15])} {
		bounds := slices.Compact(slices.Sorted(slices.Values(append(near(edges), "b", "d", "e"))))
		for _, low := range bounds {
			for _, w := range places(r) {
				checkClip(t, r, w, from(low))
			}
			for _, high := range bounds {
				for _, w := range places(r) {
					checkClip(t, r, w, upTo(low, high))
				}
			}
		}
	}
}

// checkClip checks Clip.
func checkClip(t *testing.T, r api.Run, w api.WaCursor, x api.KeRange) {
	t.Helper()
	got, e := walk.Clip(r, w, x)
	if want := clipOf(args{r: r, w: w, x: x}).w; got != want || e != api.OK {
		t.Errorf("Clip of %s, %v, %s: %v, %d, want %v", brief(r), w, brief(x), got, e, want)
	}
}

// P9.3: the ends of the part, and ranges without keys, to which each cursor is moved to one place.
func TestClipCases(t *testing.T) {
	for _, c := range []struct {
		x    api.KeRange
		want [4]int
	}{
		{api.KeRange{}, [4]int{0, 1, 2, 3}}, {from("c"), [4]int{1, 1, 2, 3}}, {from("d"), [4]int{2, 2, 2, 3}}, {from("z"), [4]int{3, 3, 3, 3}},
		{upTo("b", "d"), [4]int{1, 1, 2, 2}}, {upTo("a", "e"), [4]int{0, 1, 2, 2}}, {upTo("", "c"), [4]int{0, 1, 1, 1}}, {upTo("", "c\x00"), [4]int{0, 1, 2, 2}}, {upTo("c", "c"), [4]int{1, 1, 1, 1}}, {upTo("", ""), [4]int{0, 0, 0, 0}}, {upTo("d", "b"), [4]int{2, 2, 2, 2}}, {upTo("z", ""), [4]int{3, 3, 3, 3}},
	} {
		for n, want := range c.want {
			w, e := walk.Clip(example(), at(n), c.x)
			checkOne(t, result{call: "Clip", w: w, e: e}, result{call: "Clip", w: at(want)})
		}
	}
}

// P9.3: what is no range, with each cursor.
func TestClipErrors(t *testing.T) {
	seen := map[api.Errno]bool{}
	for _, r := range smallRuns() {
		for _, x := range wrongRanges() {
			for _, w := range places(r) {
				checkAll(t, args{r: r, w: w, x: x})
			}
			_, e := walk.Clip(r, at(0), x)
			seen[e] = true
		}
	}
	if len(seen) != 2 || !seen[api.ErrLong] || !seen[api.ErrForm] {
		t.Errorf("the errors were %v", seen)
	}
}

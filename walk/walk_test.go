package walk_test

import (
	"testing"

	"bookend/api"
	"bookend/walk"
)

// P9.1 to P9.4: the examples of the chapter.
func TestExamples(t *testing.T) {
	r := example()
	a, c, x := r.Entries[0], r.Entries[1], r.Entries[2]
	for _, y := range []struct {
		key  string
		past bool
		want int
	}{{"c", false, 1}, {"c", true, 2}, {"d", false, 2}, {"d", true, 2}} {
		w, e := walk.Seek(r, y.key, y.past)
		checkOne(t, result{call: "Seek", w: w, e: e}, result{call: "Seek", w: at(y.want)})
	}
	y, w, e := walk.Next(r, at(1))
	checkOne(t, result{call: "Next", x: y, w: w, e: e}, result{call: "Next", x: c, w: at(2)})
	y, w, e = walk.Next(r, at(3))
	checkOne(t, result{call: "Next", x: y, w: w, e: e}, result{call: "Next", w: at(3), e: api.ErrEnd})
	y, w, e = walk.Prev(r, at(1))
	checkOne(t, result{call: "Prev", x: y, w: w, e: e}, result{call: "Prev", x: a, w: at(0)})
	y, w, e = walk.Prev(r, at(0))
	checkOne(t, result{call: "Prev", x: y, w: w, e: e}, result{call: "Prev", w: at(0), e: api.ErrEnd})
	l, w, e := walk.Take(r, at(0), 2)
	checkOne(t, result{call: "Take", l: l, w: w, e: e}, result{call: "Take", l: []api.Entry{a, c}, w: at(2)})
	l, w, e = walk.Take(r, at(3), -2)
	checkOne(t, result{call: "Take", l: l, w: w, e: e}, result{call: "Take", l: []api.Entry{x, c}, w: at(1)})
	l, w, e = walk.Take(r, at(2), 9)
	checkOne(t, result{call: "Take", l: l, w: w, e: e}, result{call: "Take", l: []api.Entry{x}, w: at(3)})
	y, w, e = walk.Skip(r, at(0), true, false)
	checkOne(t, result{call: "Skip", x: y, w: w, e: e}, result{call: "Skip", x: c, w: at(2)})
	y, w, e = walk.Skip(r, at(2), false, true)
	checkOne(t, result{call: "Skip", x: y, w: w, e: e}, result{call: "Skip", x: a, w: at(0)})
	w, e = walk.Clip(r, at(0), upTo("b", "d"))
	checkOne(t, result{call: "Clip", w: w, e: e}, result{call: "Clip", w: at(1)})
	w, e = walk.Clip(r, at(3), upTo("b", "d"))
	checkOne(t, result{call: "Clip", w: w, e: e}, result{call: "Clip", w: at(2)})
}

// P9.1 to P9.4: every function returns the error of runs.Check before each other one, and nothing else.
func TestRunErrorFirst(t *testing.T) {
	for _, r := range wrongRuns() {
		for _, w := range append(wrongPlaces(r), at(0), at(1), at(len(r.Entries))) {
			checkAll(t, args{r: r, w: w, key: "a", n: 1})
			checkAll(t, args{r: r, w: w, key: wrongKeys()[0], x: wrongRanges()[0], n: 5001})
		}
	}
}

// P9.1 to P9.4: a cursor that is none of the run is ErrRange, before each error but that of the run; functions without a cursor do not mind.
func TestCursorError(t *testing.T) {
	for _, r := range append(smallRuns(), keyed(numbered(5000)...)) {
		for _, w := range wrongPlaces(r) {
			checkAll(t, args{r: r, w: w, key: "a", n: 1})
			for _, x := range wrongRanges() {
				checkAll(t, args{r: r, w: w, key: wrongKeys()[0], x: x, n: 5001})
			}
		}
	}
	for _, c := range []struct {
		r api.Run
		w api.WaCursor
		e api.Errno
	}{
		{example(), at(0), api.OK}, {example(), at(3), api.OK}, {example(), at(4), api.ErrRange}, {example(), at(-1), api.ErrRange}, {api.Run{Id: 1}, at(0), api.OK}, {api.Run{Id: 1}, at(1), api.ErrRange}, {api.Run{Id: 1}, at(-1), api.ErrRange},
		{api.Run{}, at(0), api.ErrRange}, {keyed("b", "a"), at(0), api.ErrForm}, {keyed("b", "a"), at(3), api.ErrForm}, {keyed(numbered(5000)...), at(5000), api.OK}, {keyed(numbered(5000)...), at(5001), api.ErrRange}, {keyed(numbered(5001)...), at(9999), api.ErrLong},
	} {
		if e := walk.Check(c.r, c.w); e != c.e {
			t.Errorf("Check of %s, %v: %d, want %d", brief(c.r), c.w, e, c.e)
		}
	}
}

// P9.2, and Check, First and Last of P9.1: all places of runs of many lengths, also of none.
func TestSteps(t *testing.T) {
	for _, r := range smallRuns() {
		for _, w := range places(r) {
			checkAll(t, args{r: r, w: w, n: 1})
		}
	}
	for _, n := range []int{1000, 4999, 5000} {
		r := keyed(numbered(n)...)
		for _, k := range []int{0, 1, 2, n / 2, n - 2, n - 1, n} {
			checkAll(t, args{r: r, w: at(k), n: 1})
		}
	}
}

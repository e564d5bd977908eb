package shadow_test

import (
	"slices"
	"strings"
	"testing"

	"bookend/api"
	"bookend/shadow"
)

// P12.2, P12.3: the examples of the chapter.
func TestExamples(t *testing.T) {
	l := example()
	out, n, e := shadow.Filter(l, false)
	checkOne(t, "Filter", result{l: out, n: n, e: e}, result{l: []api.Entry{l[0], l[1], l[3]}})
	out, n, e = shadow.Filter(l, true)
	checkOne(t, "Filter at the bottom", result{l: out, n: n, e: e}, result{l: []api.Entry{l[0], l[3]}})
	c, n, e := shadow.Count(l, true)
	checkOne(t, "Count at the bottom", result{count: c, n: n, e: e}, result{count: api.ShCount{Kept: 2, Shadowed: 2, Dropped: 1}})
	for _, bottom := range []bool{false, true} {
		kept, s, e := shadow.Step(shadow.Begin(bottom), l[1])
		checkOne(t, "Step", result{kept: kept, state: s, e: e}, result{kept: !bottom, state: api.ShState{Some: true, Last: "b", Bottom: bottom}})
	}
}

// P12.3: the examples of errors of the chapter.
func TestErrorExamples(t *testing.T) {
	for _, c := range []struct {
		l []api.Entry
		n int
		e api.Errno
	}{
		{[]api.Entry{put("b", "", 1), put("a", "", 1)}, 1, api.ErrForm},
		{[]api.Entry{put("a", "", 0)}, 0, api.ErrRange},
	} {
		out, n, e := shadow.Filter(c.l, false)
		checkOne(t, c.l, result{l: out, n: n, e: e}, result{n: c.n, e: c.e})
	}
}

// P12.1: Begin returns the state in which there was no entry, which Check accepts.
func TestBegin(t *testing.T) {
	for _, bottom := range []bool{false, true} {
		s := shadow.Begin(bottom)
		if s != (api.ShState{Bottom: bottom}) || shadow.Check(s) != api.OK {
			t.Errorf("Begin of %v: %s, %d", bottom, brief(s), shadow.Check(s))
		}
	}
}

// P12.1: Check of states whose Last has each length around the limit, and of some without an entry.
func TestCheck(t *testing.T) {
	for _, c := range []struct {
		s api.ShState
		e api.Errno
	}{
		{api.ShState{}, api.OK}, {api.ShState{Some: true}, api.OK},
		{api.ShState{Last: "a"}, api.ErrForm}, {api.ShState{Last: "\x00"}, api.ErrForm}, {api.ShState{Some: true, Last: "a"}, api.OK},
		{api.ShState{Last: strings.Repeat("a", 32)}, api.ErrForm}, {api.ShState{Some: true, Last: strings.Repeat("a", 32)}, api.OK},
		{api.ShState{Last: strings.Repeat("a", 33)}, api.ErrLong}, {api.ShState{Some: true, Last: strings.Repeat("a", 33)}, api.ErrLong},
	} {
		atBottom := c.s
		atBottom.Bottom = true
		if e, f := shadow.Check(c.s), shadow.Check(atBottom); e != c.e || f != c.e {
			t.Errorf("Check of %s: %d, at the bottom %d, want %d", brief(c.s), e, f, c.e)
		}
	}
}

// P12.1, P12.2: each state, and what is none, with each entry, and with what is none.
func TestStates(t *testing.T) {
	for _, s := range allStates() {
		for _, x := range someEntries() {
			checkState(t, s, x)
		}
		for _, w := range wrongEntries() {
			checkState(t, s, w.x)
		}
	}
}

// P12.2: the empty key is one like others: its first entry is kept, the second one is shadowed.
func TestEmptyKey(t *testing.T) {
	for _, c := range []struct {
		s    api.ShState
		x    api.Entry
		kept bool
	}{
		{api.ShState{}, put("", "", 1), true}, {api.ShState{}, del("", 1), true},
		{api.ShState{Bottom: true}, put("", "", 1), true}, {api.ShState{Bottom: true}, del("", 1), false},
		{api.ShState{Some: true}, put("", "", 1), false}, {api.ShState{Some: true, Bottom: true}, put("", "", 1), false},
		{api.ShState{Some: true}, put("\x00", "", 1), true}, {api.ShState{Some: true, Bottom: true}, del("\x00", 1), false},
	} {
		kept, s, e := shadow.Step(c.s, c.x)
		want := result{kept: c.kept, state: api.ShState{Some: true, Last: c.x.Key, Bottom: c.s.Bottom}}
		checkOne(t, []any{c.s, c.x}, result{kept: kept, state: s, e: e}, want)
	}
}

// P12.2: of several errors of Step the first one counts: of the state, of the entry, of both together.
func TestStepErrors(t *testing.T) {
	long := api.ShState{Some: true, Last: strings.Repeat("z", 33)}
	none, last := api.ShState{Last: "z"}, api.ShState{Some: true, Last: "zz"}
	for _, w := range wrongEntries() {
		for s, want := range map[api.ShState]api.Errno{long: api.ErrLong, none: api.ErrForm, last: w.e, {}: w.e, {Bottom: true}: w.e} {
			kept, u, e := shadow.Step(s, w.x)
			checkOne(t, []any{s, w.x}, result{kept: kept, state: u, e: e}, result{e: want})
		}
	}
	for _, s := range []api.ShState{last, {Some: true, Last: "a\x00"}, {Some: true, Last: "b", Bottom: true}} {
		for _, x := range []api.Entry{put("a", "", 1), del("a", 1), put("", "", 1)} {
			kept, u, e := shadow.Step(s, x)
			checkOne(t, []any{s, x}, result{kept: kept, state: u, e: e}, result{e: api.ErrForm})
		}
	}
}

// P12.3: all small lists, also those with errors, and longer ones of the edge keys.
func TestLists(t *testing.T) {
	for _, l := range append(smallLists(), mixedLists()...) {
		checkList(t, l)
	}
}

// P12.3: the first entry with an error counts, whatever is wrong behind it.
func TestListErrors(t *testing.T) {
	wrong := wrongEntries()
	for i, w := range wrong {
		for _, n := range []int{1, 2, 5, 40} {
			for _, at := range []int{0, n / 2, n - 1} {
				l := slices.Repeat([]api.Entry{put("a", "", 1)}, n)
				l[n-1] = wrong[(i+3)%len(wrong)].x
				l[at] = w.x
				for j, r := range append(callList(l, false), callList(l, true)...) {
					checkOne(t, l, r, result{call: []string{"Filter", "Count"}[j%2], n: at, e: w.e})
				}
			}
		}
	}
}

// P12.3: a key that falls is an error, also if it is that of a tombstone, of an entry that would be shadowed, or if it falls below what was left out.
func TestFallingKeys(t *testing.T) {
	for _, c := range []struct {
		l []api.Entry
		n int
	}{
		{[]api.Entry{del("b", 1), put("a", "", 1)}, 1}, {[]api.Entry{put("b", "", 1), del("a", 1)}, 1}, {[]api.Entry{put("", "", 1), del("\x80", 1), put("\x7f", "", 1)}, 2},
		{[]api.Entry{put("a", "", 1), put("b", "", 1), put("a", "", 1)}, 2}, {[]api.Entry{put("b", "", 1), put("b", "", 1), put("a", "", 1)}, 2}, {[]api.Entry{put("a", "", 1), del("c", 1), put("b", "", 1)}, 2},
		{[]api.Entry{put("ab", "", 1), put("a", "", 1)}, 1}, {[]api.Entry{put("a\x00", "", 1), put("a", "", 1), put("", "", 0)}, 1},
	} {
		for j, r := range append(callList(c.l, false), callList(c.l, true)...) {
			checkOne(t, c.l, r, result{call: []string{"Filter", "Count"}[j%2], n: c.n, e: api.ErrForm})
		}
	}
}

// P12.3: 20000 entries are accepted, and one more is not, whatever is wrong with them.
func TestMostEntries(t *testing.T) {
	for _, times := range []int{1, 2, 7, 20000} {
		for _, n := range []int{4999, 5001, 19999, 20000, 20001, 50000} {
			l := repeated(n, times)
			checkList(t, l)
			out, at, e := shadow.Filter(l, false)
			if n > 20000 {
				checkOne(t, n, result{l: out, n: at, e: e}, result{n: -1, e: api.ErrLong})
			} else if len(out) != (n+times-1)/times || at != 0 || e != api.OK {
				t.Errorf("Filter of %d entries, %d of each key: %d, %d, %d", n, times, len(out), at, e)
			}
		}
	}
	for _, l := range [][]api.Entry{make([]api.Entry, 20001), repeated(20001, 2)} {
		l[0].Seq = 0
		l[20000].Key = ""
		checkList(t, l)
		checkList(t, l[:20000])
		checkList(t, l[1:])
	}
}

package shadow_test

import (
	"fmt"
	"math/rand"
	"slices"
	"strings"
	"testing"

	"bookend/api"
	"bookend/entries"
	"bookend/merge"
	"bookend/shadow"
)

// P1 (R1, R2, R6) and P12.6: all arguments are accepted, the same ones give the same results again, and with an error every other result is zero, but the integers of Filter and Count.
func TestAllArguments(t *testing.T) {
	failed, passed := map[string]bool{}, map[string]bool{}
	check := func(of any, first, again []result) {
		if !slices.EqualFunc(first, again, same) {
			t.Errorf("%s: the same arguments give other results", brief(of))
		}
		for _, r := range first {
			empty := result{call: r.call, e: r.e}
			if r.call == "Filter" || r.call == "Count" {
				empty.n = r.n
			}
			if r.e != api.OK && !same(r, empty) || r.e == api.OK && r.n != 0 {
				t.Errorf("%s: %s: there is a result beside the error", brief(of), brief(r))
			}
			failed[r.call] = failed[r.call] || r.e != api.OK
			passed[r.call] = passed[r.call] || r.e == api.OK
		}
	}
	for _, s := range allStates() {
		for _, w := range append(wrongEntries(), wrongEntry{put("a", "", 1), api.OK}, wrongEntry{del("c", 1), api.OK}) {
			check([]any{s, w.x}, callState(s, w.x), callState(s, w.x))
		}
	}
	for _, l := range append(smallLists(), mixedLists()...) {
		for _, bottom := range []bool{false, true} {
			check([]any{bottom, l}, callList(l, bottom), callList(l, bottom))
		}
	}
	for _, call := range []string{"Check", "Step", "Filter", "Count"} {
		if !failed[call] || !passed[call] {
			t.Errorf("%s had an error: %v, and none: %v", call, failed[call], passed[call])
		}
	}
}

// P1 (R4): nil and empty lists are the same.
func TestEmptyLists(t *testing.T) {
	for _, l := range [][]api.Entry{nil, {}, make([]api.Entry, 0, 3)} {
		checkList(t, l)
	}
}

// spare returns a copy of a list, with an entry behind its length, and a function that reports whether all of it is as it was.
func spare(l []api.Entry) (u []api.Entry, kept func() bool) {
	hidden := put("hidden", "", 1)
	all := append(slices.Clone(l), hidden)
	return all[:len(l)], func() bool { return slices.Equal(all[:len(l)], l) && all[len(l)] == hidden }
}

// P1 (R3) and P12.6: arguments are not changed, not even behind their length, nor by what is done with results; these are new memory, each time.
func TestFresh(t *testing.T) {
	for _, l := range append(goodLists(), repeated(20000, 1)) {
		for _, bottom := range []bool{false, true} {
			u, kept := spare(l)
			callList(u, bottom)
			if !kept() {
				t.Fatalf("%s: an argument was changed", brief(l))
			}
			first, _, _ := shadow.Filter(u, bottom)
			second, _, _ := shadow.Filter(u, bottom)
			first = first[:cap(first)]
			for i := range first {
				first[i] = put("scribbled", "", -1)
			}
			if !kept() || !slices.Equal(second, wantList(l, bottom)[0].l) {
				t.Fatalf("Filter of %s gives out memory that is not new", brief(l))
			}
			for i := range u {
				u[i] = put("scribbled", "", -1)
			}
			if !slices.Equal(second, wantList(l, bottom)[0].l) {
				t.Fatalf("Filter of %s gives out memory of its argument", brief(l))
			}
		}
	}
}

// P1 (R3) and P12.6: lists with errors are not changed either.
func TestWrongKept(t *testing.T) {
	for _, l := range append(smallLists(), make([]api.Entry, 20001)) {
		u, kept := spare(l)
		callList(u, false)
		callList(u, true)
		if !kept() {
			t.Fatalf("%s: an argument was changed", brief(l))
		}
	}
}

// P12.4: what is kept without the bottom has each key that comes once, with its first entry; at the bottom it is what is kept without it, but for tombstones.
func TestTheorem(t *testing.T) {
	for _, l := range append(goodLists(), repeated(20000, 3)) {
		out, _, _ := shadow.Filter(l, false)
		deep, _, _ := shadow.Filter(l, true)
		at := 0
		for i, x := range l {
			if i > 0 && l[i-1].Key == x.Key {
				continue
			}
			if at >= len(out) || out[at] != x {
				t.Fatalf("Filter of %s: the entry %d is not %s", brief(l), at, brief(x))
			}
			at++
		}
		if at != len(out) {
			t.Errorf("Filter of %s keeps %d, but there are %d keys", brief(l), len(out), at)
		}
		live := slices.DeleteFunc(out, func(x api.Entry) bool { return x.Dead })
		checkOne(t, l, result{l: deep}, result{l: live})
	}
}

// P12.5: Filter of what is kept keeps all of it; without the bottom, then at the bottom, it is Filter at the bottom.
func TestFilterAgain(t *testing.T) {
	for _, l := range append(goodLists(), repeated(20000, 3)) {
		out, _, _ := shadow.Filter(l, false)
		deep, _, _ := shadow.Filter(l, true)
		for _, c := range []struct {
			of     []api.Entry
			bottom bool
			want   []api.Entry
		}{{out, false, out}, {deep, true, deep}, {deep, false, deep}, {out, true, deep}} {
			again, n, e := shadow.Filter(c.of, c.bottom)
			checkOne(t, c.of, result{l: again, n: n, e: e}, result{l: c.want})
		}
	}
}

// goOn returns what Step keeps of a part, from a state on, and the state after the part.
func goOn(t *testing.T, s api.ShState, part []api.Entry) ([]api.Entry, api.ShState) {
	t.Helper()
	var out []api.Entry
	for _, x := range part {
		kept, after, e := shadow.Step(s, x)
		if e != api.OK {
			t.Fatalf("Step of %s, %s: %d", brief(s), brief(x), e)
		}
		if kept {
			out = append(out, x)
		}
		s = after
	}
	return out, s
}

// P12.5: entries may be filtered in parts, each one with the state after the part before it, wherever they are cut.
func TestParts(t *testing.T) {
	for i, l := range goodLists() {
		bottom := i%2 == 0
		whole, _, _ := shadow.Filter(l, bottom)
		all, end := goOn(t, shadow.Begin(bottom), l)
		checkOne(t, l, result{l: all}, result{l: whole})
		for cut := range len(l) + 1 {
			head, s := goOn(t, shadow.Begin(bottom), l[:cut])
			first, _, _ := shadow.Filter(l[:cut], bottom)
			checkOne(t, l[:cut], result{l: head}, result{l: first})
			if e := shadow.Check(s); e != api.OK {
				t.Errorf("%s is no state: %d", brief(s), e)
			}
			tail, last := goOn(t, s, l[cut:])
			checkOne(t, []any{cut, l}, result{l: append(head, tail...), state: last}, result{l: whole, state: end})
		}
	}
}

// P12.3: the first entry with an error is the first one with an error of Step, of the state after those before it, and this error.
func TestErrorsOfSteps(t *testing.T) {
	for i, l := range smallLists() {
		bottom := i%2 == 0
		_, n, e := shadow.Filter(l, bottom)
		if e == api.OK {
			continue
		}
		_, s := goOn(t, shadow.Begin(bottom), l[:n])
		if _, _, f := shadow.Step(s, l[n]); f != e {
			t.Errorf("Filter of %s: %d, %d, but Step of %s has %d", brief(l), n, e, brief(s), f)
		}
	}
}

// P12.5: Kept, Shadowed and Dropped are together how many come, Kept is what Filter keeps, and nothing is dropped but at the bottom; there as many are shadowed.
func TestCounts(t *testing.T) {
	for _, l := range append(goodLists(), repeated(20000, 3)) {
		shallow, _, _ := shadow.Count(l, false)
		deep, _, _ := shadow.Count(l, true)
		for bottom, c := range map[bool]api.ShCount{false: shallow, true: deep} {
			out, _, _ := shadow.Filter(l, bottom)
			if c.Kept+c.Shadowed+c.Dropped != len(l) || c.Kept != len(out) {
				t.Errorf("Count of %s (bottom: %v): %+v, Filter keeps %d", brief(l), bottom, c, len(out))
			}
		}
		if shallow.Dropped != 0 || shallow.Shadowed != deep.Shadowed {
			t.Errorf("Count of %s: %+v, at the bottom %+v", brief(l), shallow, deep)
		}
	}
}

// P12.6: of entries with different numbers, ordered as entries.Sort does, Filter keeps entries.Newest, and at the bottom those of it that are live.
func TestNewest(t *testing.T) {
	r := rand.New(rand.NewSource(3))
	keys := edgeKeys()
	for round := range 300 {
		n := r.Intn(60)
		if round%100 == 0 {
			n = 5000
		}
		var l []api.Entry
		for _, seq := range r.Perm(n) {
			x := randomEntry(r, keys[r.Intn(len(keys))])
			x.Seq = 1 + int64(seq)
			l = append(l, x)
		}
		sorted, e := entries.Sort(l)
		newest, f := entries.Newest(l)
		live, g := entries.Live(newest)
		if e != api.OK || f != api.OK || g != api.OK {
			t.Fatalf("%s: %d, %d, %d", brief(l), e, f, g)
		}
		out, at, e := shadow.Filter(sorted, false)
		checkOne(t, sorted, result{l: out, n: at, e: e}, result{l: newest})
		out, at, e = shadow.Filter(sorted, true)
		checkOne(t, sorted, result{l: out, n: at, e: e}, result{l: live})
	}
}

// P12.3, P12.4: of a merge of runs Filter keeps what lies on top: each run over the older ones.
func TestMerges(t *testing.T) {
	r := rand.New(rand.NewSource(5))
	for range 100 {
		var top []api.Entry
		runs := make([][]api.Entry, 1+r.Intn(8))
		for run := len(runs) - 1; run >= 0; run-- {
			for i := range 40 {
				if r.Intn(3) == 0 {
					runs[run] = append(runs[run], randomEntry(r, fmt.Sprintf("%02d%s", i, strings.Repeat("k", i%31))))
				}
			}
			over, e := entries.Over(top, runs[run])
			if e != api.OK {
				t.Fatalf("Over: %d", e)
			}
			top = over
		}
		all, _, e := merge.All(runs)
		if e != api.OK {
			t.Fatalf("All: %d", e)
		}
		out, n, e := shadow.Filter(all, false)
		checkOne(t, all, result{l: out, n: n, e: e}, result{l: top})
		live, _ := entries.Live(top)
		out, n, e = shadow.Filter(all, true)
		checkOne(t, all, result{l: out, n: n, e: e}, result{l: live})
	}
}

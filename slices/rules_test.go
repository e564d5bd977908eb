package slices_test

import (
	"math/rand"
	"slices"
	"testing"

	"bookend/api"
	"bookend/entries"
	"bookend/merge"
	"bookend/shadow"
	sliced "bookend/slices"
)

// oddStates returns states of merges in slices, and what is none.
func oddStates() []api.SlState {
	l := []api.SlState{{}, {Steps: 1}, {Out: []api.Entry{put("a", "", 1)}}, {Shadow: api.ShState{Some: true}}, {Merge: api.MgState{Runs: example()}}, {Merge: api.MgState{At: []int{0}}}}
	for i, runs := range manyMerges() {
		if i%23 > 0 && i > 0 {
			continue
		}
		all := len(orderOf(runs))
		for _, read := range []int{0, all / 2, all} {
			s := stateAt(runs, i%2 == 0, read)
			l = append(l, s)
			for j, w := range wrongStates(s) {
				if j%3 == i%3 && len(w.Out) < 20000 {
					l = append(l, w)
				}
			}
		}
	}
	for _, w := range wrongMerges() {
		l = append(l, api.SlState{Merge: api.MgState{Runs: w.runs}})
	}
	return l
}

// P1 (R1, R2, R6) and P13.6: all arguments are accepted, the same ones give the same results again, and with an error every other result is zero, but the integer of Begin.
func TestAllArguments(t *testing.T) {
	failed, passed := map[string]bool{}, map[string]bool{}
	for i, s := range oddStates() {
		bottom, n := i%2 == 0, []int{0, 1, 3, 1 << 62, -1, -1 << 63}[i%6]
		first := append(callState(s, n), callRuns(s.Merge.Runs, bottom)...)
		again := append(callState(s, n), callRuns(s.Merge.Runs, bottom)...)
		if !slices.EqualFunc(first, again, same) {
			t.Errorf("%s, %d: the same arguments give other results", brief(s), n)
		}
		for _, r := range first {
			empty := result{call: r.call, e: r.e}
			if r.call == "Begin" {
				empty.n = r.n
			}
			if r.e != api.OK && !same(r, empty) || r.call == "Begin" && r.e == api.OK && r.n != 0 {
				t.Errorf("%s, %d: %s: there is a result beside the error", brief(s), n, brief(r))
			}
			failed[r.call] = failed[r.call] || r.e != api.OK
			passed[r.call] = passed[r.call] || r.e == api.OK
		}
	}
	for _, call := range []string{"Begin", "All", "Check", "Step", "Left", "Output"} {
		if !failed[call] || !passed[call] {
			t.Errorf("%s had an error: %v, and none: %v", call, failed[call], passed[call])
		}
	}
}

// P1 (R4): nil and empty lists are the same.
func TestEmptyLists(t *testing.T) {
	for _, runs := range [][][]api.Entry{nil, {}, make([][]api.Entry, 0, 3)} {
		checkRuns(t, runs)
		checkState(t, api.SlState{Merge: api.MgState{Runs: runs}}, 0)
	}
	for _, l := range [][]api.Entry{nil, {}, make([]api.Entry, 0, 3)} {
		for _, runs := range [][][]api.Entry{{l}, {l, keyed(1, "a"), l}} {
			checkRuns(t, runs)
			for read := range len(orderOf(runs)) + 1 {
				s := stateAt(runs, true, read)
				if len(s.Out) == 0 {
					s.Out = l
				}
				for n := range 3 {
					checkState(t, s, n)
				}
			}
		}
	}
}

// behind is what lies behind the length of each list of spare.
var behind = put("behind", "", 77)

// spare returns a copy of a state, with an element behind the length of each list, and a function that reports whether all of it is as it was.
func spare(s api.SlState) (u api.SlState, kept func() bool) {
	u = copyOf(s)
	for run, l := range u.Merge.Runs {
		u.Merge.Runs[run] = append(l, behind)[:len(l)]
	}
	m := &u.Merge
	m.Runs = append(m.Runs, []api.Entry{behind})[:len(m.Runs)]
	m.At = append(m.At, 77)[:len(m.At)]
	m.Tree.Keys = append(m.Tree.Keys, api.LsKey{Key: "behind"})[:len(m.Tree.Keys)]
	m.Tree.Lose = append(m.Tree.Lose, 77)[:len(m.Tree.Lose)]
	u.Out = append(u.Out, behind)[:len(u.Out)]
	return u, func() bool {
		for _, l := range append(slices.Clone(m.Runs), u.Out) {
			if after(l) != behind {
				return false
			}
		}
		return sameState(s, u) && after(m.Runs)[0] == behind && after(m.At) == 77 && after(m.Tree.Keys).Key == "behind" && after(m.Tree.Lose) == 77
	}
}

// after returns the element behind the length of a list.
func after[T any](l []T) T { return l[:len(l)+1][len(l)] }

// P1 (R3) and P13.6: arguments are not changed, not even behind their length.
func TestArgumentsKept(t *testing.T) {
	for _, s := range oddStates() {
		u, kept := spare(s)
		for _, n := range []int{-1, 0, 1, 2, 1 << 40} {
			callState(u, n)
		}
		callRuns(u.Merge.Runs, true)
		if !kept() {
			t.Errorf("%s: an argument was changed", brief(s))
		}
	}
}

// scribble writes over all that a list has, also behind its length.
func scribble[T any](l []T, x T) {
	l = l[:cap(l)]
	for i := range l {
		l[i] = x
	}
}

// scribbleState writes over all lists of a state, from outside in.
func scribbleState(s api.SlState) {
	scribble(s.Out, put("scribbled", "", -1))
	for _, l := range s.Merge.Runs {
		scribble(l, put("scribbled", "", -1))
	}
	scribble(s.Merge.Runs, nil)
	scribble(s.Merge.At, -77)
	scribble(s.Merge.Tree.Keys, api.LsKey{Key: "scribbled"})
	scribble(s.Merge.Tree.Lose, -77)
}

// P1 (R3) and P13.6: the states that are returned share no memory with arguments, nor with other results; the entries of Runs are new, too.
func TestStatesFresh(t *testing.T) {
	calls := map[string]func(api.SlState) api.SlState{
		"Begin":       func(s api.SlState) api.SlState { u, _, _ := sliced.Begin(s.Merge.Runs, true); return u },
		"Step by 0":   func(s api.SlState) api.SlState { u, _, _ := sliced.Step(s, 0); return u },
		"Step by 1":   func(s api.SlState) api.SlState { u, _, _ := sliced.Step(s, 1); return u },
		"Step by all": func(s api.SlState) api.SlState { u, _, _ := sliced.Step(s, 1<<40); return u },
	}
	for i, runs := range manyMerges() {
		if i%5 > 0 {
			continue
		}
		all := len(orderOf(runs))
		for _, read := range []int{0, all / 2, all} {
			of := stateAt(runs, i%2 == 0, read)
			for name, call := range calls {
				s, kept := spare(of)
				first, second := call(s), call(s)
				want := copyOf(second)
				scribbleState(first)
				if !kept() || !sameState(second, want) {
					t.Fatalf("%s of %s gives out memory that is not new", name, brief(of))
				}
				scribbleState(s)
				if !sameState(second, want) {
					t.Fatalf("%s of %s gives out memory of its argument", name, brief(of))
				}
			}
		}
	}
}

// P1 (R3): no two lists of a state that is returned share memory, even if those of the argument do.
func TestStatesApart(t *testing.T) {
	one := keyed(0, "a", "b", "c")
	runs := [][]api.Entry{one, one, one[:2]}
	begun, _, e := sliced.Begin(runs, false)
	if e != api.OK {
		t.Fatalf("Begin: %d", e)
	}
	arg := stateAt(runs, false, 3)
	arg.Merge.Runs, arg.Out = runs, one[:1]
	stepped, _, e := sliced.Step(arg, 0)
	if e != api.OK {
		t.Fatalf("Step: %d", e)
	}
	for _, s := range []api.SlState{begun, stepped} {
		lists := append(slices.Clone(s.Merge.Runs), s.Out)
		for i, l := range lists {
			want := make([][]api.Entry, len(lists))
			for j := range lists {
				want[j] = slices.Clone(lists[j])
			}
			scribble(l, put("scribbled", "", -1))
			for j := range lists {
				if j != i && !slices.Equal(lists[j], want[j]) {
					t.Errorf("the lists %d and %d of %s share memory", i, j, brief(s))
				}
			}
		}
	}
}

// P1 (R3) and P13.6: the lists of All and Output are new memory.
func TestListsFresh(t *testing.T) {
	for i, runs := range manyMerges() {
		bottom := i%2 == 0
		s, kept := spare(stateAt(runs, bottom, len(orderOf(runs))))
		want := slices.Clone(s.Out)
		for name, call := range map[string]func() []api.Entry{
			"All":    func() []api.Entry { l, _, _ := sliced.All(s.Merge.Runs, bottom); return l },
			"Output": func() []api.Entry { l, _ := sliced.Output(s); return l },
		} {
			first, second := call(), call()
			scribble(first, put("scribbled", "", -1))
			if !kept() || !slices.Equal(second, want) {
				t.Fatalf("%s of %s gives out memory that is not new", name, brief(runs))
			}
		}
	}
}

// cutUp goes on from a state by slices of these sizes, and returns the last state, and how many entries were read.
func cutUp(t *testing.T, s api.SlState, sizes ...int) (api.SlState, int) {
	t.Helper()
	all := 0
	for _, n := range sizes {
		left, _ := sliced.Left(s)
		u, used, e := sliced.Step(s, n)
		if e != api.OK || used != min(n, left) {
			t.Fatalf("Step of %s by %d: %d, %d", brief(s), n, used, e)
		}
		s, all = u, all+used
	}
	return s, all
}

// P13.4: Step by n, and then by m, is Step by n + m, from each state.
func TestTwoSlices(t *testing.T) {
	for i, runs := range append(allMerges(2, "a", "b"), example()) {
		begun, _, _ := sliced.Begin(runs, i%2 == 0)
		all := len(orderOf(runs))
		for read := range all + 1 {
			s, _ := cutUp(t, begun, read)
			for n := range all - read + 2 {
				for m := range all - read + 2 {
					u, used := cutUp(t, s, n, m)
					v, whole := cutUp(t, s, n+m)
					checkOne(t, []any{runs, read, n, m}, result{state: u, n: used}, result{state: v, n: whole})
				}
			}
		}
	}
}

// P13.4: however the steps are cut, at the end Output is what All returns, and Steps is how many entries all runs have.
func TestTheorem(t *testing.T) {
	r := rand.New(rand.NewSource(4))
	for i, runs := range manyMerges() {
		bottom, all := i%2 == 0, len(orderOf(runs))
		if all > 80 && i%5 > 0 {
			continue
		}
		out, steps, e := sliced.All(runs, bottom)
		if steps != all || e != api.OK {
			t.Fatalf("All of %s: %d steps, %d", brief(runs), steps, e)
		}
		var random []int
		for range steps {
			random = append(random, r.Intn(4))
		}
		for _, sizes := range [][]int{{steps}, {steps + 1}, slices.Repeat([]int{1}, steps), slices.Repeat([]int{0, 3}, steps), append(random, steps)} {
			s, _, _ := sliced.Begin(runs, bottom)
			s, used := cutUp(t, s, sizes...)
			l, e := sliced.Output(s)
			checkOne(t, runs, result{l: l, n: used, e: e}, result{l: out, n: steps})
			if s.Steps != int64(steps) {
				t.Errorf("%s: %d steps", brief(runs), s.Steps)
			}
		}
	}
}

// P13.1, P13.2: what comes out is what shadow.Filter leaves of what merge.Next yields, after each step; the Merge is what Next leads to.
func TestAgainstNext(t *testing.T) {
	for i, runs := range append(mixedMerges(), allMerges(2, "", "b")...) {
		bottom := i%2 == 0
		s, _, _ := sliced.Begin(runs, bottom)
		m, _, _ := merge.Begin(runs)
		var l []api.Entry
		for {
			out, _, _ := shadow.Filter(l, bottom)
			if !sameMerge(s.Merge, m) || !slices.Equal(s.Out, out) || s.Steps != int64(len(l)) || sliced.Check(s) != api.OK {
				t.Fatalf("after %d entries: %s", len(l), brief(s))
			}
			x, _, next, e := merge.Next(m)
			s, _ = cutUp(t, s, 1)
			if e == api.ErrEnd {
				break
			}
			l, m = append(l, x), next
		}
	}
}

// P13.5: Step by n uses n, or what is left, if this is less; Left is less by this; Out grows after what it was, by no more than was used.
func TestGrowth(t *testing.T) {
	for i, runs := range manyMerges() {
		if len(runs) == 3 && i%3 > 0 {
			continue
		}
		s, _, _ := sliced.Begin(runs, i%2 == 0)
		for n := 0; ; n = (n + 1) % 5 {
			left, _ := sliced.Left(s)
			u, used, e := sliced.Step(s, n)
			rest, f := sliced.Left(u)
			if used != min(n, left) || rest != left-used || e != api.OK || f != api.OK {
				t.Fatalf("Step of %s by %d: %d, %d, %d are left, before %d", brief(s), n, used, e, rest, left)
			}
			if grown := len(u.Out) - len(s.Out); grown < 0 || grown > used || !slices.Equal(u.Out[:len(s.Out)], s.Out) {
				t.Fatalf("Step of %s by %d: Out is %s", brief(s), n, brief(u.Out))
			}
			s = u
			if left == 0 && n == 4 {
				break
			}
		}
	}
}

// P13.6: Output ascends, each key once: entries.CheckList accepts it, if it has at most 5000 entries; at the bottom it has no tombstones, and these are all that it has not.
func TestOutputAscends(t *testing.T) {
	for _, runs := range append(manyMerges(), sized(9999, false), sized(20000, false), sized(20000, true)) {
		shallow, _, _ := sliced.All(runs, false)
		deep, _, _ := sliced.All(runs, true)
		for _, out := range [][]api.Entry{shallow, deep} {
			for i, x := range out {
				if i > 0 && out[i-1].Key >= x.Key {
					t.Fatalf("All of %s: %s comes after %s", brief(runs), brief(x), brief(out[i-1]))
				}
			}
			if n, e := entries.CheckList(out); len(out) <= 5000 && e != api.OK {
				t.Errorf("All of %s: CheckList has %d, %d", brief(runs), n, e)
			}
		}
		live := slices.DeleteFunc(shallow, func(x api.Entry) bool { return x.Dead })
		checkOne(t, runs, result{l: deep}, result{l: live})
	}
}

// P13.6: states are values: what is done with one changes neither it nor those that came from it.
func TestValues(t *testing.T) {
	for i, runs := range mixedMerges() {
		bottom, all := i%2 == 0, len(orderOf(runs))
		s := stateAt(runs, bottom, all/2)
		part, _ := cutUp(t, s, 1)
		far, _ := cutUp(t, part, all)
		other, _ := cutUp(t, part, 1, 1)
		scribbleState(other)
		again, _ := cutUp(t, part, all)
		checkOne(t, runs, result{state: again}, result{state: far})
		checkOne(t, runs, result{state: part}, result{state: stateAt(runs, bottom, min(all, all/2+1))})
	}
}

// P13.1 to P13.6: merges at random, in slices at random.
func TestRandom(t *testing.T) {
	r := rand.New(rand.NewSource(9))
	for range 60 {
		runs := make([][]api.Entry, 1+r.Intn(32))
		for run := range runs {
			var keys []string
			for _, k := range numbered(60) {
				if r.Intn(1+r.Intn(9)) == 0 {
					keys = append(keys, k)
				}
			}
			runs[run] = keyed(run+r.Intn(3), keys...)
		}
		s, _, e := sliced.Begin(runs, r.Intn(2) == 0)
		checkRuns(t, runs)
		for range 12 {
			if e != api.OK {
				t.Fatalf("%s: %d", brief(runs), e)
			}
			checkState(t, s, r.Intn(30)-1)
			s, _, e = sliced.Step(s, r.Intn(40))
		}
	}
}

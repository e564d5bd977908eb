package merge_test

import (
	"math/rand"
	"slices"
	"testing"

	"bookend/api"
	"bookend/merge"
)

// oddStates returns states of merges, and what is none.
func oddStates() []api.MgState {
	l := []api.MgState{{}, {At: []int{0}}, {Runs: example()}, {Runs: example(), At: []int{0, 0}}, {Runs: make([][]api.Entry, 1)}, {Tree: api.LsTree{Win: 5}}}
	for i, runs := range manyMerges() {
		if i%9 > 0 {
			continue
		}
		n := len(orderOf(runs))
		for _, read := range []int{0, 1, n / 2, n - 1, n} {
			if read < 0 || read > n {
				continue
			}
			s := stateOf(runs, read)
			l = append(l, s)
			for run := range runs {
				u := copyOf(s)
				u.At[run]++
				v := copyOf(u)
				v.Tree = treeOf(runs, u.At)
				w := copyOf(s)
				w.Tree.Lose[run]--
				l = append(l, u, v, w)
			}
			u := copyOf(s)
			u.Tree.Win = -1
			l = append(l, u)
		}
	}
	for _, w := range wrongMerges() {
		n := len(w.runs)
		l = append(l, api.MgState{Runs: w.runs, At: make([]int, n), Tree: treeOf(example(), []int{0, 0})})
	}
	return l
}

// P1 (R1, R2, R6) and P11.7: all arguments are accepted, the same ones give the same results again, and with an error every other result is zero, but the integers of Begin and Check.
func TestAllArguments(t *testing.T) {
	failed, passed := map[string]bool{}, map[string]bool{}
	wide := wideKeys()
	for i, s := range oddStates() {
		key := wide[i%len(wide)]
		checkAll(t, s, key)
		first := append(callAll(s, key), beginAll(s.Runs)...)
		again := append(callAll(s, key), beginAll(s.Runs)...)
		if !slices.EqualFunc(first, again, same) {
			t.Errorf("%s, %q: the same arguments give other results", brief(s), key)
		}
		for _, r := range first {
			empty := result{call: r.call, e: r.e}
			number := r.call == "Check" || r.call == "Begin"
			if number {
				empty.n = r.n
			}
			if r.e != api.OK && !same(r, empty) || number && r.e == api.OK && r.n != 0 {
				t.Errorf("%s, %q: %s: there is a result beside the error", brief(s), key, brief(r))
			}
			failed[r.call] = failed[r.call] || r.e != api.OK
			passed[r.call] = passed[r.call] || r.e == api.OK
		}
	}
	if len(failed) != 7 {
		t.Errorf("these were called: %v", failed)
	}
	for call, ok := range failed {
		if !ok || !passed[call] {
			t.Errorf("%s had an error: %v, and none: %v", call, ok, passed[call])
		}
	}
}

// P1 (R4): nil and empty lists are the same.
func TestEmptyLists(t *testing.T) {
	for _, runs := range [][][]api.Entry{nil, {}, make([][]api.Entry, 0, 3)} {
		for _, s := range []api.MgState{{Runs: runs}, {Runs: runs, At: []int{}, Tree: api.LsTree{Keys: []api.LsKey{}, Lose: []int{}}}} {
			checkAll(t, s, "a")
			checkBegin(t, s.Runs)
		}
	}
	for _, l := range [][]api.Entry{nil, {}, make([]api.Entry, 0, 3)} {
		runs := [][]api.Entry{l, keyed(1, "a"), l}
		checkBegin(t, runs)
		for read := range 2 {
			checkAll(t, stateOf(runs, read), "b")
		}
	}
}

// spare returns a copy of a state, with elements behind the length of each list, and a function that reports whether all of it is as it was.
func spare(s api.MgState) (u api.MgState, kept func() bool) {
	hidden := api.Entry{Key: "hidden", Seq: 1}
	runs := make([][]api.Entry, 0, len(s.Runs)+1)
	for _, l := range s.Runs {
		runs = append(runs, append(slices.Clone(l), hidden)[:len(l)])
	}
	n, keys, losers := len(s.At), len(s.Tree.Keys), len(s.Tree.Lose)
	u = api.MgState{
		Runs: append(runs, []api.Entry{hidden})[:len(runs)],
		At:   append(slices.Clone(s.At), 77)[:n],
		Tree: api.LsTree{Keys: append(slices.Clone(s.Tree.Keys), api.LsKey{Key: "hidden"})[:keys], Lose: append(slices.Clone(s.Tree.Lose), 77)[:losers], Win: s.Tree.Win},
	}
	return u, func() bool {
		for _, l := range u.Runs {
			if l[:len(l)+1][len(l)] != hidden {
				return false
			}
		}
		last := u.Runs[:len(runs)+1][len(runs)]
		return sameState(s, u) && last[0] == hidden && u.At[:n+1][n] == 77 && u.Tree.Keys[:keys+1][keys].Key == "hidden" && u.Tree.Lose[:losers+1][losers] == 77
	}
}

// P1 (R3) and P11.7: arguments are not changed, not even behind their length.
func TestArgumentsKept(t *testing.T) {
	for _, s := range oddStates() {
		u, kept := spare(s)
		for _, key := range []string{"", "a", "z"} {
			callAll(u, key)
			beginAll(u.Runs)
		}
		if !kept() {
			t.Errorf("%s: an argument was changed", brief(s))
		}
	}
}

// scribble writes over all that a state has, also behind the length of its lists, but for the entries of its runs; behind these it appends.
func scribble(s api.MgState) {
	runs := s.Runs[:cap(s.Runs)]
	for i := range runs {
		_ = append(runs[i], api.Entry{Key: "scribbled", Seq: -1})
		runs[i] = nil
	}
	at, keys, lose := s.At[:cap(s.At)], s.Tree.Keys[:cap(s.Tree.Keys)], s.Tree.Lose[:cap(s.Tree.Lose)]
	for i := range at {
		at[i] = -77
	}
	for i := range keys {
		keys[i] = api.LsKey{Key: "scribbled"}
	}
	for i := range lose {
		lose[i] = -77
	}
}

// P1 (R3) and P11.7: the states that are returned share no memory with arguments, or with other results, but for the entries of Runs.
func TestStatesFresh(t *testing.T) {
	calls := map[string]func(api.MgState) api.MgState{
		"Begin":     func(s api.MgState) api.MgState { u, _, _ := merge.Begin(s.Runs); return u },
		"Next":      func(s api.MgState) api.MgState { _, _, u, _ := merge.Next(s); return u },
		"Skip none": func(s api.MgState) api.MgState { u, _ := merge.Skip(s, ""); return u },
		"Skip some": func(s api.MgState) api.MgState { u, _ := merge.Skip(s, "b"); return u },
		"Skip all":  func(s api.MgState) api.MgState { u, _ := merge.Skip(s, "\xff\xff"); return u },
	}
	for i, runs := range manyMerges() {
		if i%4 > 0 {
			continue
		}
		n := len(orderOf(runs))
		for _, read := range []int{0, n / 2, n} {
			s, kept := spare(stateOf(runs, read))
			for name, call := range calls {
				first, second := call(s), call(s)
				want := copyOf(second)
				scribble(first)
				if !kept() || !sameState(second, want) {
					t.Fatalf("%s of %s gives out memory that is not new", name, brief(s))
				}
			}
		}
	}
}

// P1 (R3) and P11.7: the lists of All are new memory.
func TestListsFresh(t *testing.T) {
	for _, runs := range manyMerges() {
		s, kept := spare(stateOf(runs, 0))
		first, from, _ := merge.All(s.Runs)
		first, from = first[:cap(first)], from[:cap(from)]
		want := wantBegin(runs)[1]
		second := beginAll(s.Runs)[1]
		for i := range first {
			first[i] = api.Entry{Key: "scribbled", Seq: -1}
		}
		for i := range from {
			from[i] = -77
		}
		if !kept() || !same(second, want) {
			t.Fatalf("All of %s gives out memory that is not new", brief(runs))
		}
	}
}

// drain returns the entries that Next yields up to ErrEnd, the numbers of their runs, and the states on the way.
func drain(t *testing.T, s api.MgState) (l []api.Entry, from []int, states []api.MgState) {
	t.Helper()
	states = []api.MgState{s}
	for {
		x, run, u, e := merge.Next(s)
		if e == api.ErrEnd {
			return l, from, states
		}
		if e != api.OK {
			t.Fatalf("Next of %s: %d", brief(s), e)
		}
		l, from, states, s = append(l, x), append(from, run), append(states, u), u
	}
}

// P11.5: Next, from Begin on, returns what All does; each state on the way is one of the merge, and what comes from it, also after the others have gone on, are the entries that are left.
func TestTheorem(t *testing.T) {
	for _, runs := range manyMerges() {
		all, numbers, _ := merge.All(runs)
		begun, _, e := merge.Begin(runs)
		if e != api.OK {
			t.Fatalf("Begin of %s: %d", brief(runs), e)
		}
		l, from, states := drain(t, begun)
		checkOne(t, runs, result{l: l, from: from}, result{l: all, from: numbers})
		for i := len(states) - 1; i >= 0; i-- {
			if n, e := merge.Check(states[i]); n != 0 || e != api.OK {
				t.Errorf("%s is no state: %d, %d", brief(states[i]), n, e)
			}
			if i > 20 && i%17 > 0 {
				continue
			}
			l, from, _ := drain(t, states[i])
			checkOne(t, states[i], result{l: l, from: from}, result{l: all[i:], from: numbers[i:]})
		}
	}
}

// P11.6: All has all entries of all runs, each once, those of one run in their order; keys never fall, and with the same key the numbers of runs ascend.
func TestAllEntries(t *testing.T) {
	for _, runs := range append(manyMerges(), largeMerges()...) {
		l, from, e := merge.All(runs)
		if len(l) != len(from) || e != api.OK {
			t.Fatalf("All of %s: %d entries, %d numbers, %d", brief(runs), len(l), len(from), e)
		}
		parts := make([][]api.Entry, len(runs))
		for i, x := range l {
			parts[from[i]] = append(parts[from[i]], x)
			if i > 0 && (x.Key < l[i-1].Key || x.Key == l[i-1].Key && from[i] <= from[i-1]) {
				t.Errorf("All of %s: %s of %d comes after %s of %d", brief(runs), brief(x), from[i], brief(l[i-1]), from[i-1])
			}
		}
		if !slices.EqualFunc(parts, runs, slices.Equal[[]api.Entry]) {
			t.Errorf("All of %s has other entries: %s", brief(runs), brief(parts))
		}
	}
}

// P11.6: Left is less by 1 with each Next, down to 0.
func TestLeftFalls(t *testing.T) {
	for _, runs := range manyMerges() {
		begun, _, _ := merge.Begin(runs)
		_, _, states := drain(t, begun)
		for i, s := range states {
			if n, e := merge.Left(s); n != len(states)-1-i || e != api.OK {
				t.Errorf("Left after %d of %d: %d, %d", i, len(states)-1, n, e)
			}
		}
	}
}

// P11.7: Skip is Next as often as there are entries with a lesser key that were not read; so Skip twice is Skip to the greater key.
func TestSkipIsNext(t *testing.T) {
	wide := wideKeys()
	for i, runs := range manyMerges() {
		begun, _, _ := merge.Begin(runs)
		l, _, states := drain(t, begun)
		for j, s := range states {
			key, other := wide[(i+5*j)%len(wide)], wide[(i+11*j)%len(wide)]
			to := j
			for to < len(l) && l[to].Key < key {
				to++
			}
			u, e := merge.Skip(s, key)
			checkOne(t, key, result{state: u, e: e}, result{state: states[to]})
			v, e := merge.Skip(u, other)
			w, f := merge.Skip(s, max(key, other))
			checkOne(t, []string{key, other}, result{state: v, e: e}, result{state: w, e: f})
		}
	}
}

// P11.3 to P11.7: merges at random, with Next and Skip at random.
func TestRandom(t *testing.T) {
	r := rand.New(rand.NewSource(7))
	for range 60 {
		runs := make([][]api.Entry, 1+r.Intn(32))
		for run := range runs {
			var keys []string
			for _, k := range numbered(60) {
				if r.Intn(1+r.Intn(9)) == 0 {
					keys = append(keys, k)
				}
			}
			runs[run] = keyed(run, keys...)
		}
		s, _, e := merge.Begin(runs)
		for range 20 {
			checkAll(t, s, string([]byte{0, byte(r.Intn(64))}))
			if e != api.OK {
				break
			}
			for range r.Intn(12) {
				if _, _, u, f := merge.Next(s); f == api.OK {
					s = u
				}
			}
			if r.Intn(3) == 0 {
				s, e = merge.Skip(s, string([]byte{0, byte(r.Intn(64))}))
			}
		}
	}
}

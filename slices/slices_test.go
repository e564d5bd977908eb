package slices_test

import (
	"slices"
	"testing"

	"bookend/api"
	"bookend/merge"
	sliced "bookend/slices"
)

// P13.1, P13.3: the examples of the chapter.
func TestExamples(t *testing.T) {
	runs := example()
	out := []api.Entry{runs[1][0], runs[0][0], runs[1][2]}
	s, n, e := sliced.Begin(runs, false)
	if s.Steps != 0 || n != 0 || e != api.OK {
		t.Errorf("Begin: %d steps, %d, %d", s.Steps, n, e)
	}
	n, e = sliced.Left(s)
	checkOne(t, "Left of Begin", result{n: n, e: e}, result{n: 4})
	l, e := sliced.Output(s)
	checkOne(t, "Output of Begin", result{l: l, e: e}, result{e: api.ErrDown})
	u, n, e := sliced.Step(s, -1)
	checkOne(t, "Step by -1", result{state: u, n: n, e: e}, result{e: api.ErrRange})
	u, n, e = sliced.Step(s, 2)
	checkOne(t, "Step by 2", result{l: u.Out, n: n, e: e}, result{l: out[:2], n: 2})
	n, e = sliced.Left(u)
	checkOne(t, "Left", result{n: n, e: e}, result{n: 2})
	u, n, e = sliced.Step(u, 9)
	checkOne(t, "Step by 9", result{l: u.Out, n: n, e: e}, result{l: out, n: 2})
	l, e = sliced.Output(u)
	checkOne(t, "Output", result{l: l, e: e}, result{l: out})
	l, n, e = sliced.All(runs, true)
	checkOne(t, "All at the bottom", result{l: l, n: n, e: e}, result{l: []api.Entry{out[0], out[2]}, n: 4})
}

// P13.1: Begin and All of runs of all kinds.
func TestRuns(t *testing.T) {
	for _, runs := range manyMerges() {
		checkRuns(t, runs)
	}
}

// P13.1: runs of which there is no merge; the error of merge.Begin comes before that of too many entries.
func TestRunsErrors(t *testing.T) {
	for _, w := range wrongMerges() {
		for _, bottom := range []bool{false, true} {
			got := callRuns(w.runs, bottom)
			checkOne(t, w.runs, got[0], result{call: "Begin", n: w.run, e: w.e})
			checkOne(t, w.runs, got[1], result{call: "All", e: w.e})
		}
	}
}

// P13.1: All accepts 20000 entries, and not one more, even if fewer come out; Begin accepts them all.
func TestMostEntries(t *testing.T) {
	for _, apart := range []bool{false, true} {
		for _, n := range []int{5001, 19999, 20000, 20001, 25000} {
			runs := sized(n, apart)
			checkRuns(t, runs)
			l, steps, e := sliced.All(runs, false)
			switch {
			case n > 20000:
				checkOne(t, n, result{l: l, n: steps, e: e}, result{e: api.ErrLong})
			case apart && len(l) != n || !apart && len(l) != 5000 || steps != n || e != api.OK:
				t.Errorf("All of %d entries: %d, %d, %d", n, len(l), steps, e)
			}
		}
	}
	var full [][]api.Entry
	for run := range 32 {
		full = append(full, keyed(run, numbered(5000)...))
	}
	checkRuns(t, full)
}

// P13.2, P13.3: each state of merges of all kinds, with steps of each number, and of none.
func TestStates(t *testing.T) {
	for i, runs := range manyMerges() {
		all := len(orderOf(runs))
		for read := 0; read <= all; read += 1 + all/20 {
			s := stateAt(runs, i%2 == 0, read)
			if all <= 4 {
				for n := -1; n <= all+1; n++ {
					checkState(t, s, n)
				}
				continue
			}
			for _, n := range []int{-1, 0, 1, i % 7, all - read, 1 << 40} {
				checkState(t, s, n)
			}
		}
	}
}

// P13.2: states that differ from others in one place: in Steps, in Out, in the Shadow, in the Merge.
func TestWrongStates(t *testing.T) {
	met := map[api.Errno]int{}
	for i, runs := range append(smallMerges(), example()) {
		if i%5 > 0 {
			continue
		}
		all := len(orderOf(runs))
		for read := range all + 1 {
			for j, s := range wrongStates(stateAt(runs, (i+read)%2 == 0, read)) {
				checkState(t, s, j%4)
				met[sliced.Check(s)]++
			}
		}
	}
	for _, e := range []api.Errno{api.OK, api.ErrLong, api.ErrRange, api.ErrForm} {
		if met[e] < 500 {
			t.Errorf("there were only %d states with the error %d", met[e], e)
		}
	}
}

// P13.2: the same, of merges of more runs.
func TestWrongLarger(t *testing.T) {
	for i, runs := range mixedMerges() {
		all := len(orderOf(runs))
		if i%9 > 0 {
			continue
		}
		for _, read := range []int{0, all / 2, all} {
			for j, s := range wrongStates(stateAt(runs, i%2 == 0, read)) {
				if j%3 == read%3 {
					checkState(t, s, 1)
				}
			}
		}
	}
}

// P13.2: of several errors the first one counts: of the Merge, ErrLong, ErrRange, ErrForm; and all come before what is wrong with the number of steps.
func TestOrderOfErrors(t *testing.T) {
	right := stateAt(example(), false, 2)
	changes := []struct {
		e      api.Errno
		change func(s *api.SlState)
	}{
		{api.ErrRange, func(s *api.SlState) { s.Merge.Runs = [][]api.Entry{{put("a", "", 0)}} }},
		{api.ErrLong, func(s *api.SlState) { s.Out = make([]api.Entry, 20001) }},
		{api.ErrRange, func(s *api.SlState) { s.Steps = 3 }},
		{api.ErrForm, func(s *api.SlState) { s.Shadow.Last = "a" }},
	}
	for set := 1; set < 1<<len(changes); set++ {
		s, want := copyOf(right), api.OK
		for i := len(changes) - 1; i >= 0; i-- {
			if set>>i&1 == 1 {
				changes[i].change(&s)
				want = changes[i].e
			}
		}
		for _, n := range []int{-1, 0, 1} {
			for _, r := range callState(s, n) {
				checkOne(t, []any{set, n}, r, result{call: r.call, e: want})
			}
		}
	}
}

// P13.2: a Merge that is none has its own error, before all others.
func TestMergeErrors(t *testing.T) {
	for _, w := range wrongMerges() {
		n := len(w.runs)
		for _, s := range []api.SlState{
			{Merge: api.MgState{Runs: w.runs}},
			{Merge: api.MgState{Runs: w.runs, At: make([]int, n)}, Steps: 1, Out: make([]api.Entry, 20001)},
			{Merge: api.MgState{Runs: w.runs, At: slices.Repeat([]int{6000}, n)}, Steps: -1, Shadow: api.ShState{Last: "a"}},
		} {
			if _, e := merge.Check(s.Merge); e != w.e {
				t.Fatalf("merge.Check of %s: %d", brief(w.runs), e)
			}
			for _, r := range callState(s, -1) {
				checkOne(t, w.runs, r, result{call: r.call, e: w.e})
			}
		}
	}
}

// P13.2, P13.3: 20000 entries may be read, and not one more, even if fewer come out.
func TestMostRead(t *testing.T) {
	for _, apart := range []bool{false, true} {
		runs := sized(20002, apart)
		for _, c := range []struct {
			read, n, used int
			e             api.Errno
		}{
			{0, 20000, 20000, api.OK}, {0, 20001, 0, api.ErrLong}, {0, 20002, 0, api.ErrLong}, {0, 1<<63 - 1, 0, api.ErrLong}, {0, 19999, 19999, api.OK},
			{19999, 1, 1, api.OK}, {19999, 2, 0, api.ErrLong}, {19999, -1, 0, api.ErrRange}, {19999, 1<<63 - 1, 0, api.ErrLong},
			{20000, 0, 0, api.OK}, {20000, 1, 0, api.ErrLong}, {20000, -1 << 63, 0, api.ErrRange},
			{20001, 0, 0, api.ErrLong}, {20001, -1, 0, api.ErrLong}, {20002, 0, 0, api.ErrLong},
		} {
			s := stateAt(runs, apart, c.read)
			checkState(t, s, c.n)
			_, used, e := sliced.Step(s, c.n)
			checkOne(t, c, result{n: used, e: e}, result{n: c.used, e: c.e})
		}
	}
	runs := sized(20000, true)
	checkState(t, stateAt(runs, true, 0), 1<<63-1)
	checkState(t, stateAt(runs, true, 19999), 5)
	checkState(t, stateAt(runs, false, 20000), 1)
}

// P13.2: of a state of which too many entries were read, and of one with a long Out, ErrLong comes before what is wrong with Steps, Out and the Shadow.
func TestTooManyRead(t *testing.T) {
	long := stateAt(sized(20001, false), false, 20001)
	for _, s := range []api.SlState{
		long,
		{Merge: long.Merge, Shadow: long.Shadow, Out: long.Out, Steps: 20000},
		{Merge: long.Merge, Shadow: api.ShState{Last: "a"}, Steps: 20001},
		{Merge: stateAt(example(), false, 1).Merge, Out: make([]api.Entry, 20001), Steps: 1},
		{Merge: stateAt(example(), false, 1).Merge, Out: make([]api.Entry, 50000), Steps: 7},
	} {
		for _, n := range []int{-1, 0, 1} {
			for _, r := range callState(s, n) {
				checkOne(t, n, r, result{call: r.call, e: api.ErrLong})
			}
		}
	}
	short := stateAt(example(), false, 1)
	short.Out = make([]api.Entry, 20000)
	if e := sliced.Check(short); e != api.ErrForm {
		t.Errorf("Check of an Out of 20000: %d", e)
	}
}

// P13.2: the Bottom of a state is any, as long as no tombstone was left out, or would have been.
func TestBottomOfStates(t *testing.T) {
	runs := [][]api.Entry{{put("a", "1", 1), del("b", 2)}, {del("a", 1)}}
	for read, want := range []api.Errno{api.OK, api.OK, api.OK, api.ErrForm} {
		for _, bottom := range []bool{false, true} {
			s := stateAt(runs, bottom, read)
			s.Shadow.Bottom = !bottom
			if e := sliced.Check(s); e != want {
				t.Errorf("Check after %d entries, bottom %v: %d", read, bottom, e)
			}
		}
	}
}

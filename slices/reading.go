package slices

import (
	"slices"

	"bookend/api"
	"bookend/merge"
	"bookend/shadow"
)

// A reading is a state that goes on by steps: next are the entries that come, and from the numbers of their runs.
type reading struct {
	now  api.SlState
	next []api.Entry
	from []int
}

// resume returns the reading that goes on from s, which was checked, by n entries, which are left.
func resume(s api.SlState, n int) *reading {
	// There is no error: these are parts of runs that were checked.
	next, from, _ := merge.All(coming(s.Merge, n))
	s.Merge.At = slices.Clone(s.Merge.At)
	s.Out = slices.Clone(s.Out)
	return &reading{s, next, from}
}

// step reads one entry.
func (r *reading) step() {
	x, run := r.next[0], r.from[0]
	r.next, r.from = r.next[1:], r.from[1:]
	// There is no error: what comes was checked, and its keys never fall.
	kept, after, _ := shadow.Step(r.now.Shadow, x)
	if kept {
		r.now.Out = append(r.now.Out, x)
	}
	r.now.Shadow = after
	r.now.Merge.At[run]++
	r.now.Steps++
}

// repeat makes n steps.
func repeat(n int, step func()) {
	for range n {
		step()
	}
}

// state returns the state of a reading, in new memory.
func (r *reading) state() api.SlState {
	s := r.now
	// The tree has only the keys that come next, so it is also that of a merge of these entries alone.
	m, _, _ := merge.Begin(coming(s.Merge, 1))
	s.Merge.Tree = m.Tree
	s.Merge.Runs = copyRuns(s.Merge.Runs)
	return s
}

// checkOut returns OK if Out and the Shadow of s are those after the entries that were read.
func checkOut(s api.SlState) api.Errno {
	l, _, e := merge.All(readParts(s.Merge))
	if e != api.OK {
		return e
	}
	out, _, e := shadow.Filter(l, s.Shadow.Bottom)
	if e != api.OK {
		return e
	}
	after := shadow.Begin(s.Shadow.Bottom)
	if n := len(l); n > 0 {
		// The last entry alone leads to the same state: it says nothing of those before.
		_, after, _ = shadow.Step(after, l[n-1])
	}
	if s.Shadow != after || !slices.Equal(s.Out, out) {
		return api.ErrForm
	}
	return api.OK
}

// countRead returns how many entries were read.
func countRead(m api.MgState) int {
	read := 0
	for _, n := range m.At {
		read += n
	}
	return read
}

// readParts returns, of each run, the entries that were read; of a state these are the first ones of the merge.
func readParts(m api.MgState) [][]api.Entry {
	var parts [][]api.Entry
	for run, l := range m.Runs {
		parts = append(parts, l[:m.At[run]])
	}
	return parts
}

// coming returns, of each run, the entries that come next, but not more than n: the next n of the merge are among these.
func coming(m api.MgState, n int) [][]api.Entry {
	var parts [][]api.Entry
	for run, l := range m.Runs {
		l = l[m.At[run]:]
		parts = append(parts, l[:min(n, len(l))])
	}
	return parts
}

// copyRuns returns the runs in new memory, entries included: merge shares those with its arguments.
func copyRuns(runs [][]api.Entry) [][]api.Entry {
	var own [][]api.Entry
	for _, l := range runs {
		own = append(own, slices.Clone(l))
	}
	return own
}

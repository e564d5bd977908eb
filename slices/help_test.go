package slices_test

import (
	"cmp"
	"fmt"
	"math/rand"
	"slices"
	"strings"
	"testing"

	"bookend/api"
	"bookend/loser"
	"bookend/merge"
	sliced "bookend/slices"
)

// put and del are entries.
func put(key, val string, seq int64) api.Entry { return api.Entry{Key: key, Val: val, Seq: seq} }
func del(key string, seq int64) api.Entry      { return api.Entry{Key: key, Dead: true, Seq: seq} }

// example returns the runs of the chapter.
func example() [][]api.Entry {
	return [][]api.Entry{{del("b", 9)}, {put("a", "1", 1), put("b", "2", 2), put("c", "3", 3)}}
}

// numbered returns n keys of two bytes, ascending.
func numbered(n int) []string {
	var l []string
	for i := range n {
		l = append(l, string([]byte{byte(i >> 8), byte(i)}))
	}
	return l
}

// edgeKeys returns keys, ascending, at which an order could go wrong, also of the greatest length.
func edgeKeys() []string {
	return []string{"", "\x00", "\x00\x00", "A", "a", "a\x00", "aa", "ab", strings.Repeat("b", 31), strings.Repeat("b", 32), "c", "\x7f", "\x80", "é", "\xff", "\xff\x00", strings.Repeat("\xff", 31) + "\xfe", strings.Repeat("\xff", 32)}
}

// keyed is a run of entries with these keys, which differ from those of other runs; each third one is a tombstone, of each run others.
func keyed(run int, keys ...string) []api.Entry {
	var l []api.Entry
	for i, k := range keys {
		if (i+run)%3 == 2 {
			l = append(l, del(k, int64(10000*run+i+1)))
		} else {
			l = append(l, put(k, fmt.Sprint("v", run, ",", i), int64(10000*run+i+1)))
		}
	}
	return l
}

// ways returns all runs in which each of the keys is not, is put, or is dead.
func ways(run int, keys ...string) [][]api.Entry {
	l := [][]api.Entry{nil}
	for i, k := range keys {
		seq := int64(100*run + i + 1)
		for _, r := range l {
			l = append(l, append(slices.Clone(r), put(k, fmt.Sprint(run), seq)), append(slices.Clone(r), del(k, seq)))
		}
	}
	return l
}

// allMerges returns all rows of n runs of these keys, each one put, dead or not there.
func allMerges(n int, keys ...string) [][][]api.Entry {
	rows := [][][]api.Entry{nil}
	for run := range n {
		var longer [][][]api.Entry
		for _, row := range rows {
			for _, r := range ways(run, keys...) {
				longer = append(longer, append(slices.Clone(row), r))
			}
		}
		rows = longer
	}
	return rows
}

// smallMerges returns all merges of up to three runs of two keys, and of up to two runs of three keys, one of them empty.
func smallMerges() [][][]api.Entry {
	return slices.Concat(allMerges(1, "", "a", "b"), allMerges(2, "", "a", "b"), allMerges(2, "a", "ab"), allMerges(3, "a", "ab"))
}

// mixedMerges returns merges of each number of runs: equal ones, such as have no keys in common, and some of the edge keys.
func mixedMerges() [][][]api.Entry {
	r := rand.New(rand.NewSource(13))
	var l [][][]api.Entry
	for n := 1; n <= 32; n++ {
		equal, apart, few := make([][]api.Entry, n), make([][]api.Entry, n), make([][]api.Entry, n)
		all := numbered(2 * n)
		for run := range n {
			equal[run] = keyed(run, "", "k", "z")
			apart[run] = keyed(run, all[2*n-2-2*run:2*n-2*run]...)
			var keys []string
			for _, k := range edgeKeys() {
				if r.Intn(2+run%4) == 0 {
					keys = append(keys, k)
				}
			}
			few[run] = keyed(run, keys...)
		}
		l = append(l, equal, apart, few, make([][]api.Entry, n))
	}
	return l
}

// manyMerges returns merges of all kinds, but large ones.
func manyMerges() [][][]api.Entry {
	return slices.Concat([][][]api.Entry{example()}, smallMerges(), mixedMerges())
}

// sized is a merge of so many entries, in runs that are full, but for the last one; each key is in all of them, or in one alone.
func sized(n int, apart bool) [][]api.Entry {
	var runs [][]api.Entry
	keys := numbered(n)
	for run := 0; n > 0; run++ {
		size := min(n, 5000)
		if apart {
			runs, keys = append(runs, keyed(run, keys[:size]...)), keys[size:]
		} else {
			runs = append(runs, keyed(run, keys[:size]...))
		}
		n -= size
	}
	return runs
}

// A wrongMerge is runs of which there is no merge, and the result of Begin.
type wrongMerge struct {
	runs [][]api.Entry
	run  int
	e    api.Errno
}

// wrongMerges returns runs with each error, also such as have too many entries together.
func wrongMerges() []wrongMerge {
	long, val := strings.Repeat("k", 33), strings.Repeat("v", 65)
	l := []wrongMerge{
		{nil, -1, api.ErrForm}, {[][]api.Entry{}, -1, api.ErrForm},
		{make([][]api.Entry, 33), -1, api.ErrLong}, {slices.Repeat([][]api.Entry{keyed(0, "b", "a")}, 40), -1, api.ErrLong}, {slices.Repeat([][]api.Entry{keyed(0, numbered(700)...)}, 33), -1, api.ErrLong},
	}
	bad := []struct {
		l []api.Entry
		e api.Errno
	}{
		{keyed(0, numbered(5001)...), api.ErrLong}, {keyed(0, "b", "a"), api.ErrForm}, {keyed(0, "a", "a"), api.ErrForm}, {keyed(0, "", ""), api.ErrForm},
		{keyed(0, "a", long), api.ErrLong}, {[]api.Entry{put("a", val, 1)}, api.ErrLong}, {[]api.Entry{{Key: "a", Val: "v", Dead: true, Seq: 1}}, api.ErrForm},
		{[]api.Entry{put("a", "", 0)}, api.ErrRange}, {[]api.Entry{put("a", "", 1), del("b", 1e9+1)}, api.ErrRange},
	}
	for i, b := range bad {
		for _, n := range []int{1, 2, 32} {
			for _, run := range []int{0, n / 2, n - 1} {
				runs := make([][]api.Entry, n)
				runs[0] = keyed(1, "a", "c")
				// What is wrong behind it does not count.
				runs[n-1] = bad[(i+4)%len(bad)].l
				runs[run] = b.l
				l = append(l, wrongMerge{runs, run, b.e})
			}
		}
	}
	return append(l, wrongMerge{append(sized(20001, false), keyed(0, "b", "a")), 5, api.ErrForm})
}

// A coming is an entry of a merge, and the number of its run.
type coming struct {
	x   api.Entry
	run int
}

// orderOf returns the entries of runs in the order of the merge.
func orderOf(runs [][]api.Entry) []coming {
	var l []coming
	for run, r := range runs {
		for _, x := range r {
			l = append(l, coming{x, run})
		}
	}
	slices.SortFunc(l, func(a, b coming) int {
		return cmp.Or(cmp.Compare(a.x.Key, b.x.Key), cmp.Compare(a.run, b.run))
	})
	return l
}

// stateAt is the state in which the first n entries were read.
func stateAt(runs [][]api.Entry, bottom bool, n int) api.SlState {
	at := make([]int, len(runs))
	s := api.SlState{Shadow: api.ShState{Bottom: bottom}, Steps: int64(n)}
	met := map[string]bool{}
	for _, c := range orderOf(runs)[:n] {
		at[c.run]++
		s.Shadow.Some, s.Shadow.Last = true, c.x.Key
		if !met[c.x.Key] && !(bottom && c.x.Dead) {
			s.Out = append(s.Out, c.x)
		}
		met[c.x.Key] = true
	}
	var keys []api.LsKey
	for run, l := range runs {
		if at[run] == len(l) {
			keys = append(keys, api.LsKey{Done: true})
		} else {
			keys = append(keys, api.LsKey{Key: l[at[run]].Key})
		}
	}
	tree, _ := loser.Build(keys)
	s.Merge = api.MgState{Runs: runs, At: at, Tree: tree}
	return s
}

// copyOf returns a state in new memory.
func copyOf(s api.SlState) api.SlState {
	t := s
	t.Merge.Runs = make([][]api.Entry, len(s.Merge.Runs))
	for run, l := range s.Merge.Runs {
		t.Merge.Runs[run] = slices.Clone(l)
	}
	t.Merge.At, t.Merge.Tree.Keys, t.Merge.Tree.Lose = slices.Clone(s.Merge.At), slices.Clone(s.Merge.Tree.Keys), slices.Clone(s.Merge.Tree.Lose)
	t.Out = slices.Clone(s.Out)
	return t
}

// A result is what a function returned; what it does not have is zero.
type result struct {
	call  string
	state api.SlState
	l     []api.Entry
	n     int
	e     api.Errno
}

// sameState reports whether two states are equal.
func sameState(a, b api.SlState) bool {
	return sameMerge(a.Merge, b.Merge) && a.Shadow == b.Shadow && slices.Equal(a.Out, b.Out) && a.Steps == b.Steps
}

// sameMerge reports whether two states of merges are equal.
func sameMerge(a, b api.MgState) bool {
	return slices.EqualFunc(a.Runs, b.Runs, slices.Equal[[]api.Entry]) && slices.Equal(a.At, b.At) &&
		slices.Equal(a.Tree.Keys, b.Tree.Keys) && slices.Equal(a.Tree.Lose, b.Tree.Lose) && a.Tree.Win == b.Tree.Win
}

// same reports whether two results are equal.
func same(a, b result) bool {
	return a.call == b.call && sameState(a.state, b.state) && slices.Equal(a.l, b.l) && a.n == b.n && a.e == b.e
}

// brief returns the beginning of what there is, for messages.
func brief(x any) string {
	s := fmt.Sprintf("%+q", x)
	if len(s) > 500 {
		return fmt.Sprintf("%s .. (%d)", s[:500], len(s))
	}
	return s
}

// checkOne checks one result.
func checkOne(t *testing.T, of any, got, want result) {
	t.Helper()
	if !same(got, want) {
		t.Errorf("%s: %s, want %s", brief(of), brief(got), brief(want))
	}
}

// callRuns calls each function that has runs.
func callRuns(runs [][]api.Entry, bottom bool) []result {
	s, n, e := sliced.Begin(runs, bottom)
	l, steps, f := sliced.All(runs, bottom)
	return []result{{call: "Begin", state: s, n: n, e: e}, {call: "All", l: l, n: steps, e: f}}
}

// wantRuns returns what each of them must return.
func wantRuns(runs [][]api.Entry, bottom bool) []result {
	if _, n, e := merge.Begin(runs); e != api.OK {
		return []result{{call: "Begin", n: n, e: e}, {call: "All", e: e}}
	}
	begin, all := result{call: "Begin", state: stateAt(runs, bottom, 0)}, result{call: "All", e: api.ErrLong}
	if n := len(orderOf(runs)); n <= 20000 {
		all.l, all.n, all.e = stateAt(runs, bottom, n).Out, n, api.OK
	}
	return []result{begin, all}
}

// callState calls each function that has a state.
func callState(s api.SlState, n int) []result {
	out := []result{{call: "Check", e: sliced.Check(s)}}
	u, used, e := sliced.Step(s, n)
	out = append(out, result{call: "Step", state: u, n: used, e: e})
	left, e := sliced.Left(s)
	out = append(out, result{call: "Left", n: left, e: e})
	l, e := sliced.Output(s)
	return append(out, result{call: "Output", l: l, e: e})
}

// wantState returns what each of them must return.
func wantState(s api.SlState, n int) []result {
	e := stateErr(s)
	out := []result{{call: "Check", e: e}, {call: "Step", e: e}, {call: "Left", e: e}, {call: "Output", e: e}}
	if e != api.OK {
		return out
	}
	read, all := int(s.Steps), len(orderOf(s.Merge.Runs))
	used := min(n, all-read)
	switch {
	case n < 0:
		out[1].e = api.ErrRange
	case read+used > 20000:
		out[1].e = api.ErrLong
	default:
		out[1].state, out[1].n = stateAt(s.Merge.Runs, s.Shadow.Bottom, read+used), used
	}
	out[2].n = all - read
	if read < all {
		out[3].e = api.ErrDown
	} else {
		out[3].l = stateAt(s.Merge.Runs, s.Shadow.Bottom, all).Out
	}
	return out
}

// stateErr is the error of a state.
func stateErr(s api.SlState) api.Errno {
	if _, e := merge.Check(s.Merge); e != api.OK {
		return e
	}
	var read int64
	for _, n := range s.Merge.At {
		read += int64(n)
	}
	if max(int64(len(s.Out)), read) > 20000 {
		return api.ErrLong
	}
	if read != s.Steps {
		return api.ErrRange
	}
	if want := stateAt(s.Merge.Runs, s.Shadow.Bottom, int(read)); !sameState(s, want) {
		return api.ErrForm
	}
	return api.OK
}

// checkRuns checks each function that has runs, at the bottom and not.
func checkRuns(t *testing.T, runs [][]api.Entry) {
	t.Helper()
	for _, bottom := range []bool{false, true} {
		want := wantRuns(runs, bottom)
		for i, got := range callRuns(runs, bottom) {
			checkOne(t, []any{bottom, runs}, got, want[i])
		}
	}
}

// checkState checks each function that has a state.
func checkState(t *testing.T, s api.SlState, n int) {
	t.Helper()
	want := wantState(s, n)
	for i, got := range callState(s, n) {
		checkOne(t, []any{n, s}, got, want[i])
	}
}

// wrongStates returns states each of which differs from this one in one place; not all of these are wrong.
func wrongStates(right api.SlState) []api.SlState {
	return slices.Concat(wrongSteps(right), wrongOuts(right), wrongShadows(right), wrongPlaces(right))
}

// wrongSteps returns states with other Steps.
func wrongSteps(right api.SlState) []api.SlState {
	var l []api.SlState
	for _, n := range []int64{-1, 0, right.Steps - 1, right.Steps + 1, right.Steps + 1<<32, -right.Steps, 20001, -1 << 63, 1<<63 - 1} {
		s := copyOf(right)
		s.Steps = n
		l = append(l, s)
	}
	return l
}

// wrongOuts returns states with another Out.
func wrongOuts(right api.SlState) []api.SlState {
	out := right.Out
	outs := [][]api.Entry{nil, append(slices.Clone(out), put("zz", "", 1)), append([]api.Entry{put("", "", 1)}, out...), make([]api.Entry, 20000), make([]api.Entry, 20001)}
	for i, x := range out {
		outs = append(outs, slices.Delete(slices.Clone(out), i, i+1), slices.Insert(slices.Clone(out), i, x))
		for _, y := range []api.Entry{{}, put(x.Key+"\x00", x.Val, x.Seq), put(x.Key, x.Val+"!", x.Seq), put(x.Key, x.Val, x.Seq+1), {Key: x.Key, Val: x.Val, Dead: !x.Dead, Seq: x.Seq}} {
			other := slices.Clone(out)
			other[i] = y
			outs = append(outs, other)
		}
	}
	if len(out) > 1 {
		other := slices.Clone(out)
		other[0], other[1] = other[1], other[0]
		outs = append(outs, other)
	}
	var l []api.SlState
	for _, other := range outs {
		s := copyOf(right)
		s.Out = other
		l = append(l, s)
	}
	return l
}

// wrongShadows returns states with another Shadow.
func wrongShadows(right api.SlState) []api.SlState {
	var l []api.SlState
	for _, last := range []string{"", "\x00", "a", "b", right.Shadow.Last, right.Shadow.Last + "\x00", strings.Repeat("z", 33)} {
		for _, some := range []bool{false, true} {
			for _, bottom := range []bool{false, true} {
				s := copyOf(right)
				s.Shadow = api.ShState{Some: some, Last: last, Bottom: bottom}
				l = append(l, s)
			}
		}
	}
	return l
}

// wrongPlaces returns states with another Merge: some that are none of a merge, and those in which one entry more or less was read.
func wrongPlaces(right api.SlState) []api.SlState {
	other := func(change func(m *api.MgState)) api.SlState {
		s := copyOf(right)
		change(&s.Merge)
		return s
	}
	l := []api.SlState{
		other(func(m *api.MgState) { *m = api.MgState{} }), other(func(m *api.MgState) { m.Runs = nil }), other(func(m *api.MgState) { m.At = nil }), other(func(m *api.MgState) { m.Tree = api.LsTree{} }),
		other(func(m *api.MgState) { m.Tree.Win++ }), other(func(m *api.MgState) { m.Tree.Lose[0]++ }), other(func(m *api.MgState) { m.At[0]++ }), other(func(m *api.MgState) { m.At[0] = -1 }),
		other(func(m *api.MgState) { m.Runs[0] = keyed(0, "b", "a") }), other(func(m *api.MgState) { m.Runs = slices.Repeat(m.Runs, 33) }),
	}
	n, all := int(right.Steps), len(orderOf(right.Merge.Runs))
	for _, read := range []int{n - 1, n + 1} {
		if read >= 0 && read <= all {
			l = append(l, other(func(m *api.MgState) { *m = stateAt(m.Runs, false, read).Merge }))
		}
	}
	return l
}

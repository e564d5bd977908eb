package merge_test

import (
	"cmp"
	"fmt"
	"math/rand"
	"slices"
	"strings"
	"testing"

	"bookend/api"
	"bookend/entries"
	"bookend/merge"
)

// put and del are entries.
func put(key, val string, seq int64) api.Entry { return api.Entry{Key: key, Val: val, Seq: seq} }
func del(key string, seq int64) api.Entry      { return api.Entry{Key: key, Dead: true, Seq: seq} }

// example returns the runs of the chapter.
func example() [][]api.Entry {
	return [][]api.Entry{{del("b", 9)}, {put("a", "1", 1), put("b", "2", 2), put("c", "3", 3)}}
}

// keyed is a run of entries with these keys, which differ from those of other runs; each third one is a tombstone.
func keyed(run int, keys ...string) []api.Entry {
	var l []api.Entry
	for i, k := range keys {
		if i%3 == 2 {
			l = append(l, del(k, int64(i+1)))
		} else {
			l = append(l, put(k, fmt.Sprint("v", run, ",", i), int64(1000*run+i+1)))
		}
	}
	return l
}

// numbered returns n keys of two bytes, ascending.
func numbered(n int) []string {
	var l []string
	for i := range n {
		l = append(l, string([]byte{byte(i >> 8), byte(i)}))
	}
	return l
}

// edgeKeys returns keys, ascending, at which an order could go wrong, also of the greatest length.
func edgeKeys() []string {
	return []string{"", "\x00", "\x00\x00", "A", "a", "a\x00", "aa", "ab", strings.Repeat("b", 31), strings.Repeat("b", 32), "c", "\x7f", "\x80", "é", "\xff", "\xff\x00", strings.Repeat("\xff", 31) + "\xfe", strings.Repeat("\xff", 32)}
}

// wideKeys returns what Skip is tried with: keys, what is beside them, and what is too long for one.
func wideKeys() []string {
	l := edgeKeys()
	for _, k := range edgeKeys() {
		l = append(l, k+"\x00", k+strings.Repeat("\xff", 33))
		if k != "" {
			l = append(l, k[:len(k)-1])
		}
	}
	slices.Sort(l)
	return slices.Compact(append(l, strings.Repeat("\xff", 1<<16)))
}

// subsets returns all lists of some of the keys.
func subsets(keys []string) [][]string {
	l := [][]string{nil}
	for _, k := range keys {
		for _, s := range l {
			l = append(l, append(slices.Clone(s), k))
		}
	}
	return l
}

// smallMerges returns all rows of up to three runs of three keys, and those of four runs of two keys.
func smallMerges() [][][]api.Entry {
	var l [][][]api.Entry
	for n := 1; n <= 3; n++ {
		l = append(l, allMerges(n, subsets([]string{"", "a", "b"}))...)
	}
	return append(l, allMerges(4, subsets([]string{"a", "ab"}))...)
}

// allMerges returns all rows of n runs of these keys.
func allMerges(n int, of [][]string) [][][]api.Entry {
	rows := [][][]api.Entry{nil}
	for run := range n {
		var longer [][][]api.Entry
		for _, row := range rows {
			for _, keys := range of {
				longer = append(longer, append(slices.Clone(row), keyed(run, keys...)))
			}
		}
		rows = longer
	}
	return rows
}

// mixedMerges returns merges of each number of runs: equal and different ones, without keys in common, and of some edge keys.
func mixedMerges() [][][]api.Entry {
	r := rand.New(rand.NewSource(11))
	edges := edgeKeys()
	var l [][][]api.Entry
	for n := 1; n <= 32; n++ {
		equal, apart, woven := make([][]api.Entry, n), make([][]api.Entry, n), make([][]api.Entry, n)
		empty, few := make([][]api.Entry, n), make([][]api.Entry, n)
		all := numbered(2 * n)
		for run := range n {
			equal[run] = keyed(run, "", "k", "z")
			apart[run] = keyed(run, all[2*n-2-2*run:2*n-2*run]...)
			woven[run] = keyed(run, all[run], all[n+run])
			var keys []string
			for _, k := range edges {
				if r.Intn(2+run%4) == 0 {
					keys = append(keys, k)
				}
			}
			few[run] = keyed(run, keys...)
		}
		one := slices.Clone(empty)
		one[n/2] = keyed(n/2, "a", "b")
		l = append(l, equal, apart, woven, empty, few, one)
	}
	return l
}

// largeMerges returns merges of runs with as many entries as a run may have.
func largeMerges() [][][]api.Entry {
	keys := numbered(5000)
	return [][][]api.Entry{
		{keyed(0, keys...)},
		{keyed(0, keys[4990:]...), keyed(1, keys...), keyed(2, keys[:20]...)},
	}
}

// manyMerges returns merges of all kinds.
func manyMerges() [][][]api.Entry {
	return slices.Concat([][][]api.Entry{example()}, smallMerges(), mixedMerges())
}

// A wrongMerge is runs of which there is no merge, and the result of Begin.
type wrongMerge struct {
	runs [][]api.Entry
	run  int
	e    api.Errno
}

// wrongMerges returns runs with each error.
func wrongMerges() []wrongMerge {
	long := strings.Repeat("k", 33)
	bad := []struct {
		l []api.Entry
		e api.Errno
	}{
		{keyed(0, numbered(5001)...), api.ErrLong},
		{keyed(0, "b", "a"), api.ErrForm}, {keyed(0, "a", "a"), api.ErrForm}, {keyed(0, "a", "c", "b"), api.ErrForm}, {keyed(0, "", ""), api.ErrForm},
		{keyed(0, long), api.ErrLong}, {keyed(0, "a", long), api.ErrLong}, {[]api.Entry{put("a", strings.Repeat("v", 65), 1)}, api.ErrLong},
		{[]api.Entry{{Key: "a", Val: "v", Dead: true, Seq: 1}}, api.ErrForm},
		{[]api.Entry{put("a", "", 0)}, api.ErrRange}, {[]api.Entry{put("a", "", 1e9+1)}, api.ErrRange}, {[]api.Entry{put("a", "", 1), del("b", -1)}, api.ErrRange},
	}
	l := []wrongMerge{{nil, -1, api.ErrForm}, {[][]api.Entry{}, -1, api.ErrForm}}
	for i, b := range bad {
		for _, n := range []int{1, 2, 7, 32} {
			for _, run := range []int{0, n / 2, n - 1} {
				runs := make([][]api.Entry, n)
				for j := range runs {
					runs[j] = keyed(j, "a", "c")
				}
				// What is wrong behind it does not count.
				runs[n-1] = bad[(i+5)%len(bad)].l
				runs[run] = b.l
				l = append(l, wrongMerge{runs, run, b.e})
			}
		}
	}
	for _, n := range []int{33, 34, 64, 1000} {
		l = append(l, wrongMerge{make([][]api.Entry, n), -1, api.ErrLong}, wrongMerge{slices.Repeat([][]api.Entry{keyed(0, "b", "a")}, n), -1, api.ErrLong})
	}
	return l
}

// A coming is an entry of a merge, the number of its run, and its index there.
type coming struct {
	x          api.Entry
	run, index int
}

// orderOf returns the entries of runs in the order of the merge.
func orderOf(runs [][]api.Entry) []coming {
	var l []coming
	for run, r := range runs {
		for i, x := range r {
			l = append(l, coming{x, run, i})
		}
	}
	slices.SortFunc(l, func(a, b coming) int {
		return cmp.Or(cmp.Compare(a.x.Key, b.x.Key), cmp.Compare(a.run, b.run))
	})
	return l
}

// stateOf is the state in which the first n entries were read.
func stateOf(runs [][]api.Entry, n int) api.MgState {
	at := make([]int, len(runs))
	for _, c := range orderOf(runs)[:n] {
		at[c.run]++
	}
	return api.MgState{Runs: runs, At: at, Tree: treeOf(runs, at)}
}

// treeOf is the tree of the keys that come next; numbers that are none are taken to the nearest one that is.
func treeOf(runs [][]api.Entry, at []int) api.LsTree {
	var keys []api.LsKey
	for run, l := range runs {
		k := api.LsKey{Done: true}
		if i := max(at[run], 0); i < len(l) {
			k = api.LsKey{Key: l[i].Key}
		}
		keys = append(keys, k)
	}
	t := api.LsTree{Keys: keys, Lose: []int{0}, Win: playerAt(keys, 1)}
	for node := 1; node < len(keys); node++ {
		// The loser of a node is the player of that child which is not its own player.
		t.Lose = append(t.Lose, playerAt(keys, 2*node)+playerAt(keys, 2*node+1)-playerAt(keys, node))
	}
	return t
}

// playerAt returns the player of a node: of the players of its children the one that wins.
func playerAt(keys []api.LsKey, node int) int {
	if node >= len(keys) {
		return node - len(keys)
	}
	p, q := playerAt(keys, 2*node), playerAt(keys, 2*node+1)
	a, b := keys[p], keys[q]
	switch {
	case a.Done != b.Done:
		if b.Done {
			return p
		}
		return q
	case a.Key != b.Key:
		if a.Key < b.Key {
			return p
		}
		return q
	}
	return min(p, q)
}

// A result is what a function returned; what it does not have is zero.
type result struct {
	call  string
	state api.MgState
	l     []api.Entry
	from  []int
	x     api.Entry
	n     int
	e     api.Errno
}

// sameState reports whether two states are equal.
func sameState(a, b api.MgState) bool {
	return slices.EqualFunc(a.Runs, b.Runs, slices.Equal[[]api.Entry]) && slices.Equal(a.At, b.At) && sameTree(a.Tree, b.Tree)
}

// sameTree reports whether two trees are equal.
func sameTree(a, b api.LsTree) bool {
	return slices.Equal(a.Keys, b.Keys) && slices.Equal(a.Lose, b.Lose) && a.Win == b.Win
}

// same reports whether two results are equal.
func same(a, b result) bool {
	return a.call == b.call && sameState(a.state, b.state) && slices.Equal(a.l, b.l) && slices.Equal(a.from, b.from) && a.x == b.x && a.n == b.n && a.e == b.e
}

// brief returns the beginning of what there is, for messages.
func brief(x any) string {
	s := fmt.Sprintf("%+q", x)
	if len(s) > 400 {
		return fmt.Sprintf("%s .. (%d)", s[:400], len(s))
	}
	return s
}

// checkOne checks one result.
func checkOne(t *testing.T, of any, got, want result) {
	t.Helper()
	if !same(got, want) {
		t.Errorf("%s: %s, want %s", brief(of), brief(got), brief(want))
	}
}

// beginAll calls each function that has runs.
func beginAll(runs [][]api.Entry) []result {
	s, n, e := merge.Begin(runs)
	l, from, f := merge.All(runs)
	return []result{{call: "Begin", state: s, n: n, e: e}, {call: "All", l: l, from: from, e: f}}
}

// wantBegin returns what each of them must return.
func wantBegin(runs [][]api.Entry) []result {
	if n, e := runsErr(runs); e != api.OK {
		return []result{{call: "Begin", n: n, e: e}, {call: "All", e: e}}
	}
	all := result{call: "All"}
	for _, c := range orderOf(runs) {
		all.l, all.from = append(all.l, c.x), append(all.from, c.run)
	}
	return []result{{call: "Begin", state: stateOf(runs, 0)}, all}
}

// runsErr is the error of runs, and its number.
func runsErr(runs [][]api.Entry) (int, api.Errno) {
	switch {
	case len(runs) < 1:
		return -1, api.ErrForm
	case len(runs) > 32:
		return -1, api.ErrLong
	}
	for run, l := range runs {
		if _, e := entries.CheckList(l); e != api.OK {
			return run, e
		}
	}
	return 0, api.OK
}

// callAll calls each function that has a state.
func callAll(s api.MgState, key string) []result {
	n, e := merge.Check(s)
	out := []result{{call: "Check", n: n, e: e}}
	x, n, e := merge.Peek(s)
	out = append(out, result{call: "Peek", x: x, n: n, e: e})
	x, n, u, e := merge.Next(s)
	out = append(out, result{call: "Next", x: x, n: n, state: u, e: e})
	n, e = merge.Left(s)
	out = append(out, result{call: "Left", n: n, e: e})
	u, e = merge.Skip(s, key)
	return append(out, result{call: "Skip", state: u, e: e})
}

// wantAll returns what each of them must return.
func wantAll(s api.MgState, key string) []result {
	n, e := stateErr(s)
	out := []result{{call: "Check", n: n, e: e}, {call: "Peek", e: e}, {call: "Next", e: e}, {call: "Left", e: e}, {call: "Skip", e: e}}
	if e != api.OK {
		return out
	}
	order, read := orderOf(s.Runs), 0
	for _, n := range s.At {
		read += n
	}
	out[1].e, out[2].e = api.ErrEnd, api.ErrEnd
	if read < len(order) {
		c := order[read]
		out[1] = result{call: "Peek", x: c.x, n: c.run}
		out[2] = result{call: "Next", x: c.x, n: c.run, state: stateOf(s.Runs, read+1)}
	}
	out[3].n = len(order) - read
	less := 0
	for _, c := range order {
		if c.x.Key < key {
			less++
		}
	}
	out[4].state = stateOf(s.Runs, max(read, less))
	return out
}

// stateErr is the error of a state, and its number.
func stateErr(s api.MgState) (int, api.Errno) {
	if n, e := runsErr(s.Runs); e != api.OK {
		return n, e
	}
	if len(s.At) != len(s.Runs) {
		return -1, api.ErrForm
	}
	for run, l := range s.Runs {
		if s.At[run] < 0 || s.At[run] > len(l) {
			return run, api.ErrForm
		}
	}
	if !sameTree(s.Tree, treeOf(s.Runs, s.At)) {
		return -1, api.ErrForm
	}
	return orderErr(s)
}

// orderErr is the error of a state with entries that were read too early.
func orderErr(s api.MgState) (int, api.Errno) {
	unread := -1
	for _, c := range orderOf(s.Runs) {
		read := c.index < s.At[c.run]
		if unread >= 0 && read {
			return unread, api.ErrForm
		}
		if unread < 0 && !read {
			unread = c.run
		}
	}
	return 0, api.OK
}

// checkBegin checks what each function that has runs returns.
func checkBegin(t *testing.T, runs [][]api.Entry) {
	t.Helper()
	got, want := beginAll(runs), wantBegin(runs)
	for i := range want {
		checkOne(t, runs, got[i], want[i])
	}
}

// checkAll checks what each function that has a state returns.
func checkAll(t *testing.T, s api.MgState, key string) {
	t.Helper()
	got, want := callAll(s, key), wantAll(s, key)
	for i := range want {
		checkOne(t, []any{s, key}, got[i], want[i])
	}
}

// copyOf returns a copy of a state, in memory of its own.
func copyOf(s api.MgState) api.MgState {
	u := api.MgState{At: slices.Clone(s.At), Tree: api.LsTree{Keys: slices.Clone(s.Tree.Keys), Lose: slices.Clone(s.Tree.Lose), Win: s.Tree.Win}}
	for _, l := range s.Runs {
		u.Runs = append(u.Runs, slices.Clone(l))
	}
	return u
}

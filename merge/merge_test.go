package merge_test

import (
	"slices"
	"strings"
	"testing"

	"bookend/api"
	"bookend/merge"
)

// P11.1 to P11.4: the examples of the chapter.
func TestExamples(t *testing.T) {
	runs := example()
	l, from, e := merge.All(runs)
	want := []api.Entry{runs[1][0], runs[0][0], runs[1][1], runs[1][2]}
	checkOne(t, "All", result{l: l, from: from, e: e}, result{l: want, from: []int{1, 0, 1, 1}})
	s, n, e := merge.Begin(runs)
	if !slices.Equal(s.At, []int{0, 0}) || n != 0 || e != api.OK {
		t.Errorf("Begin: %v, %d, %d", s.At, n, e)
	}
	n, e = merge.Left(s)
	checkOne(t, "Left", result{n: n, e: e}, result{n: 4})
	x, n, e := merge.Peek(s)
	checkOne(t, "Peek", result{x: x, n: n, e: e}, result{x: runs[1][0], n: 1})
	_, _, u, _ := merge.Next(s)
	_, _, u, _ = merge.Next(u)
	if !slices.Equal(u.At, []int{1, 1}) {
		t.Errorf("Next, two times: %v", u.At)
	}
	x, n, _, e = merge.Next(u)
	checkOne(t, "Next, the third time", result{x: x, n: n, e: e}, result{x: runs[1][1], n: 1})
	u, e = merge.Skip(s, "c")
	if !slices.Equal(u.At, []int{1, 2}) || e != api.OK {
		t.Errorf("Skip to c: %v, %d", u.At, e)
	}
	x, n, u, e = merge.Next(u)
	_, _, _, f := merge.Next(u)
	checkOne(t, "Skip to c, then Next", result{x: x, n: n, e: e}, result{x: runs[1][2], n: 1})
	if f != api.ErrEnd {
		t.Errorf("Next at the end: %d", f)
	}
}

// P11.1, P11.2: the examples of errors of the chapter.
func TestErrorExamples(t *testing.T) {
	runs := example()
	for _, c := range []struct{ at, n int }{{3, 0}, {4, 1}} {
		at := []int{0, c.at}
		n, e := merge.Check(api.MgState{Runs: runs, At: at, Tree: treeOf(runs, at)})
		checkOne(t, at, result{n: n, e: e}, result{n: c.n, e: api.ErrForm})
	}
	s, n, e := merge.Begin(nil)
	checkOne(t, "no runs", result{state: s, n: n, e: e}, result{n: -1, e: api.ErrForm})
	s, n, e = merge.Begin([][]api.Entry{nil, keyed(1, "b", "a")})
	checkOne(t, "b, a", result{state: s, n: n, e: e}, result{n: 1, e: api.ErrForm})
}

// P11.1: Begin and All of runs of all kinds.
func TestBegin(t *testing.T) {
	for _, runs := range append(manyMerges(), largeMerges()...) {
		checkBegin(t, runs)
	}
}

// P11.1: runs of which there is no merge, also with more than one error; the limits are just kept and just broken.
func TestBeginErrors(t *testing.T) {
	for _, w := range wrongMerges() {
		checkOne(t, w.runs, beginAll(w.runs)[0], result{call: "Begin", n: w.run, e: w.e})
		checkOne(t, w.runs, beginAll(w.runs)[1], result{call: "All", e: w.e})
	}
	for _, n := range []int{31, 32, 33} {
		var want api.Errno
		if n > 32 {
			want = api.ErrLong
		}
		runs := slices.Repeat([][]api.Entry{keyed(0, strings.Repeat("k", 32))}, n)
		if _, _, e := merge.Begin(runs); e != want {
			t.Errorf("Begin of %d runs: %d", n, e)
		}
		if l, _, e := merge.All(runs); e != want || e == api.OK && len(l) != n {
			t.Errorf("All of %d runs: %d entries, %d", n, len(l), e)
		}
	}
}

// P11.1: All of 32 runs of 5000 entries.
func TestAllMost(t *testing.T) {
	keys := numbered(5000)
	var runs [][]api.Entry
	for run := range 32 {
		runs = append(runs, keyed(run, keys...))
	}
	l, from, e := merge.All(runs)
	if len(l) != 160000 || len(from) != 160000 || e != api.OK {
		t.Fatalf("All: %d entries, of %d runs, %d", len(l), len(from), e)
	}
	for i, x := range l {
		if from[i] != i%32 || x != runs[i%32][i/32] {
			t.Fatalf("All: the entry %d is %s of %d", i, brief(x), from[i])
		}
	}
}

// P11.2 to P11.4: each state of merges of all kinds, with keys of the merge, and others.
func TestStates(t *testing.T) {
	wide := wideKeys()
	for i, runs := range manyMerges() {
		n := len(orderOf(runs))
		for read := range n + 1 {
			s := stateOf(runs, read)
			checkAll(t, s, wide[(i+7*read)%len(wide)])
			if n <= 4 {
				for _, key := range []string{"", "\x00", "a", "aa", "ab", "b", "z"} {
					checkAll(t, s, key)
				}
			}
		}
	}
}

// P11.2 to P11.4: states of merges with as many entries as a run may have.
func TestLargeStates(t *testing.T) {
	for _, runs := range largeMerges() {
		n := len(orderOf(runs))
		for _, read := range []int{0, 1, 20, 39, 40, 41, n / 2, n - 20, n - 2, n - 1, n} {
			for _, key := range []string{"", "\x00\x13", "\x00\x14", "\x13\x86", "\x13\x87", "\x13\x87\x00", "z"} {
				checkAll(t, stateOf(runs, read), key)
			}
		}
	}
}

// P11.2: each function with a state returns the error of its runs first, whatever else it has.
func TestRunsErrors(t *testing.T) {
	for _, w := range wrongMerges() {
		n := len(w.runs)
		for i, at := range [][]int{nil, {0}, {-1}, make([]int, n), make([]int, n+1), slices.Repeat([]int{-1}, n), slices.Repeat([]int{6000}, n)} {
			for j, tree := range []api.LsTree{{}, treeOf(example(), []int{0, 0}), {Keys: make([]api.LsKey, n), Lose: make([]int, n), Win: -1}} {
				s := api.MgState{Runs: w.runs, At: at, Tree: tree}
				got := callAll(s, "b")
				checkOne(t, []int{i, j}, got[0], result{call: "Check", n: w.run, e: w.e})
				for _, r := range got[1:] {
					checkOne(t, []int{i, j}, r, result{call: r.call, e: w.e})
				}
			}
		}
	}
}

// P11.2: At has another length; its elements, the Tree, and the order may be wrong, too.
func TestAtLength(t *testing.T) {
	for i, runs := range append(smallMerges(), mixedMerges()...) {
		if i%3 > 0 {
			continue
		}
		n := len(runs)
		for _, at := range [][]int{nil, make([]int, n-1), make([]int, n+1), slices.Repeat([]int{-1}, n-1), slices.Repeat([]int{9999}, n+1), slices.Repeat([]int{1}, n+1), make([]int, 100)} {
			for _, tree := range []api.LsTree{{}, treeOf(runs, make([]int, n))} {
				s := api.MgState{Runs: runs, At: at, Tree: tree}
				k, e := merge.Check(s)
				checkOne(t, s, result{n: k, e: e}, result{n: -1, e: api.ErrForm})
				checkAll(t, s, "a")
			}
		}
	}
}

// allAts returns all rows of numbers from low to one more than the entries of each run are.
func allAts(runs [][]api.Entry, low int) [][]int {
	rows := [][]int{nil}
	for _, l := range runs {
		var longer [][]int
		for _, row := range rows {
			for n := low; n <= len(l)+1; n++ {
				longer = append(longer, append(slices.Clone(row), n))
			}
		}
		rows = longer
	}
	return rows
}

// P11.2: all At of small merges, also such as are no numbers of entries, with their trees, and with those of Begin.
func TestAllAts(t *testing.T) {
	good, bad := 0, 0
	for i, runs := range smallMerges() {
		if len(runs) > 2 && i%5 > 0 {
			continue
		}
		for _, at := range allAts(runs, -1) {
			s := api.MgState{Runs: runs, At: at, Tree: treeOf(runs, at)}
			checkAll(t, s, "a")
			if _, e := merge.Check(s); e == api.OK {
				good++
			} else {
				bad++
			}
			s.Tree = treeOf(runs, make([]int, len(runs)))
			checkAll(t, s, "b")
		}
	}
	if good < 1000 || bad < 1000 {
		t.Errorf("%d states of a merge, and %d others", good, bad)
	}
}

// P11.2: of each run its element of At is wrong, as anything but a number of its entries; the first one counts, and before the Tree.
func TestAtRange(t *testing.T) {
	for i, runs := range mixedMerges() {
		if i%2 > 0 {
			continue
		}
		order := len(orderOf(runs))
		for run, l := range runs {
			for _, n := range []int{-1, -1 << 63, -len(l) - 1, len(l) + 1, 5001, 1 << 32, 1<<63 - 1} {
				for _, tree := range []bool{true, false} {
					s := copyOf(stateOf(runs, order/2))
					s.At[run] = n
					for other := run + 1; other < len(runs); other += 2 {
						s.At[other] = -2
					}
					if !tree {
						s.Tree.Win++
						s.Tree.Keys = nil
					}
					k, e := merge.Check(s)
					checkOne(t, s, result{n: k, e: e}, result{n: run, e: api.ErrForm})
					if n == -1 {
						checkAll(t, s, "k")
					}
				}
			}
		}
	}
}

// wrongTrees returns trees, each of which differs from this one in one place.
func wrongTrees(right api.LsTree) []api.LsTree {
	tree := func() api.LsTree {
		return api.LsTree{Keys: slices.Clone(right.Keys), Lose: slices.Clone(right.Lose), Win: right.Win}
	}
	n := len(right.Keys)
	var l []api.LsTree
	for i := range n {
		for _, k := range []api.LsKey{{}, {Key: "a"}, {Key: right.Keys[i].Key + "\x00"}, {Done: true}, {Key: "z", Done: true}, {Key: right.Keys[i].Key, Done: !right.Keys[i].Done}} {
			if k != right.Keys[i] {
				x := tree()
				x.Keys[i] = k
				l = append(l, x)
			}
		}
		for _, p := range []int{-1, right.Lose[i] + 1, n, 1 << 40} {
			x := tree()
			x.Lose[i] = p
			l = append(l, x)
		}
	}
	for _, p := range []int{-1, right.Win + 1, n + 1, 1 << 40} {
		x := tree()
		x.Win = p
		l = append(l, x)
	}
	shorter, longer, fewer, more := tree(), tree(), tree(), tree()
	shorter.Lose, longer.Lose = shorter.Lose[:n-1], append(longer.Lose, 0)
	fewer.Keys, more.Keys = fewer.Keys[:n-1], append(more.Keys, api.LsKey{Done: true})
	return append(l, api.LsTree{}, shorter, longer, fewer, more)
}

// P11.2: the Tree is wrong in any place; this comes before the order.
func TestTrees(t *testing.T) {
	early := 0
	for i, runs := range append(smallMerges(), mixedMerges()...) {
		if i%11 > 0 {
			continue
		}
		ats := [][]int{stateOf(runs, 0).At, stateOf(runs, len(orderOf(runs))/2).At, make([]int, len(runs))}
		for run, l := range runs {
			ats[2][run] = len(l) * (run % 2)
		}
		for _, at := range ats {
			right := treeOf(runs, at)
			if n, e := merge.Check(api.MgState{Runs: runs, At: at, Tree: right}); n >= 0 && e != api.OK {
				early++
			}
			for _, tree := range wrongTrees(right) {
				s := api.MgState{Runs: runs, At: at, Tree: tree}
				n, e := merge.Check(s)
				checkOne(t, s, result{n: n, e: e}, result{n: -1, e: api.ErrForm})
				if i%3 == 0 {
					checkAll(t, s, "a")
				}
			}
		}
	}
	if early < 20 {
		t.Errorf("only %d states with entries that were read too early", early)
	}
}

// P11.2: a tree of other keys is right by itself, but not here.
func TestTreesOfOthers(t *testing.T) {
	for _, runs := range append(allMerges(2, subsets([]string{"", "a", "b"})), example()) {
		for _, at := range allAts(runs, 0) {
			for _, other := range allAts(runs, 0) {
				checkAll(t, api.MgState{Runs: runs, At: at, Tree: treeOf(runs, other)}, "a")
			}
		}
	}
}

// P11.2: entries are read too early, of runs of each number, with equal keys and others; the number is that of the run that comes first.
func TestOrder(t *testing.T) {
	for _, runs := range mixedMerges() {
		order := orderOf(runs)
		for skipped := 0; skipped < len(order); skipped += 1 + len(order)/9 {
			for early := skipped + 1; early < len(order); early += 1 + len(order)/7 {
				a, b := order[skipped], order[early]
				s := copyOf(stateOf(runs, skipped))
				s.At[b.run] = b.index + 1
				s.Tree = treeOf(runs, s.At)
				want := result{}
				if a.run != b.run {
					want = result{n: a.run, e: api.ErrForm}
				} else {
					want.n, want.e = orderErr(s)
				}
				n, e := merge.Check(s)
				checkOne(t, s, result{n: n, e: e}, want)
				checkAll(t, s, a.x.Key)
			}
		}
	}
}

// P11.3: if all entries were read, Peek and Next return ErrEnd, and Left 0.
func TestEnd(t *testing.T) {
	for _, runs := range manyMerges() {
		s := stateOf(runs, len(orderOf(runs)))
		x, n, e := merge.Peek(s)
		checkOne(t, runs, result{x: x, n: n, e: e}, result{e: api.ErrEnd})
		x, n, u, e := merge.Next(s)
		checkOne(t, runs, result{x: x, n: n, state: u, e: e}, result{e: api.ErrEnd})
		n, e = merge.Left(s)
		checkOne(t, runs, result{n: n, e: e}, result{})
	}
}

// P11.4: Skip to keys of all kinds, from each state; what was read stays so.
func TestSkip(t *testing.T) {
	var runs [][]api.Entry
	for run := range 5 {
		var keys []string
		for i, k := range edgeKeys() {
			if (i*i+run)%3 > 0 {
				keys = append(keys, k)
			}
		}
		runs = append(runs, keyed(run, keys...))
	}
	for read := range len(orderOf(runs)) + 1 {
		for _, key := range wideKeys() {
			s := stateOf(runs, read)
			u, e := merge.Skip(s, key)
			checkOne(t, key, result{call: "Skip", state: u, e: e}, wantAll(s, key)[4])
		}
	}
}

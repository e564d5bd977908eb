package merge

import (
	"iter"
	"slices"

	"bookend/api"
	"bookend/loser"
)

// A place is how far a merge has come: how many entries of each run were read, and the tree of the keys that come next.
type place struct {
	at   []int
	tree api.LsTree
}

// move returns the place behind the entry that comes next, whose run then has k.
func (p place) move(k api.LsKey) place {
	at := slices.Clone(p.at)
	at[p.tree.Win]++
	// The tree is right, and the keys of a run ascend, so there is no error.
	tree, _, _ := loser.Replace(p.tree, k)
	return place{at, tree}
}

// A reading is runs of which there is a merge, and the place up to which they were read.
type reading struct {
	place
	runs [][]api.Entry
}

// start returns the reading of runs of which nothing was read.
func start(runs [][]api.Entry) reading {
	at := make([]int, len(runs))
	// A tree may have as many keys as a merge has runs, so there is no error.
	tree, _ := loser.Build(nextKeys(runs, at))
	return reading{place{at, tree}, runs}
}

// resume returns the reading that a state has.
func resume(s api.MgState) reading {
	return reading{place{s.At, s.Tree}, s.Runs}
}

// state returns the state of a reading, in new memory but for the entries of the runs.
func (r reading) state() api.MgState {
	s := api.MgState{
		Runs: slices.Clone(r.runs),
		At:   slices.Clone(r.at),
		Tree: api.LsTree{Keys: slices.Clone(r.tree.Keys), Lose: slices.Clone(r.tree.Lose), Win: r.tree.Win},
	}
	for run, l := range s.Runs {
		// What is appended to the entries of a result must not get into the memory behind those of an argument.
		s.Runs[run] = slices.Clip(l)
	}
	return s
}

// A next is an entry that comes next, and the number of its run.
type next struct {
	entry api.Entry
	run   int
}

// rest yields the entries that were not read, in the order of the merge, each with the reading in which it was read.
func (r reading) rest() iter.Seq2[next, reading] {
	return func(yield func(next, reading) bool) {
		for now := r; !now.isDone(); {
			n := now.first()
			now.place = now.move(nextKey(now.runs[n.run], now.at[n.run]+1))
			if !yield(n, now) {
				return
			}
		}
	}
}

// isDone reports whether all entries were read: a run that was read to its end wins only then.
func (r reading) isDone() bool {
	return r.tree.Keys[r.tree.Win].Done
}

// first returns the first entry that was not read; there is one.
func (r reading) first() next {
	run := r.tree.Win
	return next{r.runs[run][r.at[run]], run}
}

// nextKeys returns, of each run, the key that comes next, if at entries of it were read.
func nextKeys(runs [][]api.Entry, at []int) []api.LsKey {
	var keys []api.LsKey
	for run, l := range runs {
		keys = append(keys, nextKey(l, at[run]))
	}
	return keys
}

// nextKey returns the key that comes next, if at entries of a run were read.
func nextKey(l []api.Entry, at int) api.LsKey {
	if at == len(l) {
		return api.LsKey{Done: true}
	}
	return api.LsKey{Key: l[at].Key}
}

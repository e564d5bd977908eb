package merge

import (
	"slices"

	"bookend/api"
	"bookend/entries"
	"bookend/loser"
)

// checkRuns returns OK if there is a merge of the runs; otherwise what is wrong, and the number of the first run that is wrong, or -1 if it is how many they are.
func checkRuns(runs [][]api.Entry) (run int, e api.Errno) {
	if len(runs) == 0 {
		return -1, api.ErrForm
	}
	if len(runs) > api.MaxPlayers {
		return -1, api.ErrLong
	}
	for run, l := range runs {
		if _, e := entries.CheckList(l); e != api.OK {
			return run, e
		}
	}
	return 0, api.OK
}

// checkAt returns OK if at can say of each run how many of its entries were read.
func checkAt(runs [][]api.Entry, at []int) (run int, e api.Errno) {
	if len(at) != len(runs) {
		return -1, api.ErrForm
	}
	for run, l := range runs {
		if at[run] < 0 || at[run] > len(l) {
			return run, api.ErrForm
		}
	}
	return 0, api.OK
}

// isNext reports whether t is the tree of the keys that come next.
func isNext(t api.LsTree, runs [][]api.Entry, at []int) bool {
	if !slices.Equal(t.Keys, nextKeys(runs, at)) {
		return false
	}
	_, e := loser.Check(t)
	return e == api.OK
}

// checkOrder returns OK if no entry that was read comes after one that was not; s has the right tree.
func checkOrder(s api.MgState) (run int, e api.Errno) {
	first, key, e := loser.Winner(s.Tree)
	if e == api.ErrEnd {
		return 0, api.OK
	}
	for run, n := range s.At {
		if n > 0 && comesAfter(s.Runs[run][n-1].Key, run, key, first) {
			return first, api.ErrForm
		}
	}
	return 0, api.OK
}

// comesAfter reports whether an entry with this key, of this run, comes after another one.
func comesAfter(key string, run int, otherKey string, otherRun int) bool {
	if key == otherKey {
		return run > otherRun
	}
	return key > otherKey
}

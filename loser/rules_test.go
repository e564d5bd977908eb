package loser_test

import (
	"fmt"
	"math/rand"
	"slices"
	"testing"

	"bookend/api"
	"bookend/loser"
)

// oddTrees returns trees, and what is none.
func oddTrees() []api.LsTree {
	var l []api.LsTree
	for i, keys := range append(smallRows(), mixedRows()...) {
		if i%9 > 0 {
			continue
		}
		right := treeOf(keys)
		l = append(l, right)
		for node := range right.Lose {
			x := treeCopy(right)
			x.Lose[node] = -1
			l = append(l, x)
		}
		for _, p := range []int{-1, right.Win + 1, len(keys), 1 << 40} {
			x := treeCopy(right)
			x.Win = p
			l = append(l, x)
		}
		x := treeCopy(right)
		x.Lose = x.Lose[1:]
		l = append(l, x)
	}
	for _, w := range wrongRows() {
		l = append(l, api.LsTree{Keys: w.keys, Lose: make([]int, len(w.keys))}, api.LsTree{Keys: w.keys})
	}
	return append(l, api.LsTree{}, api.LsTree{Lose: []int{0}}, api.LsTree{Win: -1})
}

// oddKeys returns keys of all kinds.
func oddKeys() []api.LsKey {
	return append(keysOf("", "a", "z", "\xff", "-"), api.LsKey{Key: "a", Done: true})
}

// P1 (R1, R2, R6) and P10.6: all arguments are accepted, the same ones give the same results again, and with an error every other result is zero, but the integer of Check; this is 0 with OK.
func TestAllArguments(t *testing.T) {
	failed, passed := map[string]bool{}, map[string]bool{}
	for i, x := range oddTrees() {
		k := oddKeys()[i%len(oddKeys())]
		checkAll(t, x, k)
		first := append(callAll(x, k), buildOf(x.Keys))
		again := append(callAll(x, k), buildOf(x.Keys))
		if !slices.EqualFunc(first, again, same) {
			t.Errorf("%s, %s: the same arguments give other results", brief(x), brief(k))
		}
		for _, r := range first {
			empty := result{call: r.call, e: r.e}
			if r.call == "Check" && r.e != api.OK {
				empty.n = r.n
			}
			if (r.call == "Check" || r.e != api.OK) && !same(r, empty) {
				t.Errorf("%s, %s: %s: there is a result beside the error", brief(x), brief(k), brief(r))
			}
			failed[r.call] = failed[r.call] || r.e != api.OK
			passed[r.call] = passed[r.call] || r.e == api.OK
		}
	}
	if len(failed) != 5 {
		t.Errorf("these were called: %v", failed)
	}
	for call, ok := range failed {
		if !ok || !passed[call] {
			t.Errorf("%s had an error: %v, and none: %v", call, ok, passed[call])
		}
	}
}

// P1 (R4): nil and empty lists are the same.
func TestEmptyLists(t *testing.T) {
	for _, keys := range [][]api.LsKey{nil, {}, make([]api.LsKey, 0, 5)} {
		checkOne(t, keys, buildOf(keys), result{call: "Build", e: api.ErrForm})
		for _, lose := range [][]int{nil, {}, make([]int, 0, 5)} {
			for _, got := range callAll(api.LsTree{Keys: keys, Lose: lose}, done) {
				checkOne(t, "no keys", got, result{call: got.call, e: api.ErrForm})
			}
			for _, got := range callAll(api.LsTree{Keys: keysOf("a"), Lose: lose}, done) {
				checkOne(t, "no losers", got, result{call: got.call, e: api.ErrForm})
			}
		}
	}
}

// P1 (R3) and P10.6: arguments are not changed, not even behind their length.
func TestArgumentsKept(t *testing.T) {
	for _, x := range oddTrees() {
		keys := append(slices.Clone(x.Keys), keysOf("y", "x")...)
		lose := append(slices.Clone(x.Lose), 77, 78)
		y := api.LsTree{Keys: keys[:len(x.Keys)], Lose: lose[:len(x.Lose)], Win: x.Win}
		for _, k := range oddKeys() {
			callAll(y, k)
			buildOf(y.Keys)
		}
		if !sameTree(x, y) || !slices.Equal(keys[len(x.Keys):], keysOf("y", "x")) || !slices.Equal(lose[len(x.Lose):], []int{77, 78}) {
			t.Errorf("%s: an argument was changed", brief(x))
		}
	}
}

// scribble writes over all that a tree has, also behind the length of its lists.
func scribble(t api.LsTree) {
	keys, lose := t.Keys[:cap(t.Keys)], t.Lose[:cap(t.Lose)]
	for i := range keys {
		keys[i] = key("scribbled")
	}
	for i := range lose {
		lose[i] = -77
	}
}

// P1 (R3) and P10.6: results share no memory with arguments, or with each other.
func TestResultsFresh(t *testing.T) {
	for i, keys := range append(smallRows(), mixedRows()...) {
		if i%5 > 0 {
			continue
		}
		mine := slices.Clone(keys)
		first, _ := loser.Build(mine)
		second, _ := loser.Build(mine)
		scribble(first)
		if !slices.Equal(mine, keys) || !sameTree(second, treeOf(keys)) {
			t.Fatalf("Build of %s gives out memory that is not new", brief(keys))
		}
		x := treeOf(keys)
		a, _, _ := loser.Replace(x, keys[x.Win])
		b, _, _ := loser.Replace(x, done)
		c, _, _ := loser.Replace(x, done)
		scribble(a)
		scribble(b)
		k, _ := loser.Order(x)
		l, _ := loser.Order(x)
		for j := range k {
			k[j] = -77
		}
		if !sameTree(x, treeOf(keys)) || !slices.Equal(l, orderOf(keys)) {
			t.Fatalf("Replace, or Order, of %s gives out memory that is not new", brief(keys))
		}
		if !keys[x.Win].Done && !sameTree(c, replacedOf(x, done).tree) {
			t.Fatalf("Replace of %s gives out memory of another result", brief(keys))
		}
	}
}

// P10.4: the winner wins against all others, and Order has each player behind all that win against it.
func TestLeast(t *testing.T) {
	for _, keys := range append(smallRows(), mixedRows()...) {
		x, _ := loser.Build(keys)
		p, s, e := loser.Winner(x)
		if e == api.OK && (keys[p].Done || keys[p].Key != s) {
			t.Errorf("Winner of %s: %d, %q", brief(keys), p, s)
		}
		for q := range keys {
			if q != x.Win && !beats(keys, x.Win, q) {
				t.Errorf("%s: %d does not win against %d", brief(keys), x.Win, q)
			}
		}
		l, e := loser.Order(x)
		for i := range l {
			for j := range i {
				if e != api.OK || !beats(keys, l[j], l[i]) {
					t.Errorf("Order of %s: %v, %d", brief(keys), l, e)
				}
			}
		}
	}
}

// A visit is a winner, and its key.
type visit struct {
	key    string
	player int
}

// drain replaces the winner's key by the next one of its list, until all are done, and returns the winners.
func drain(t *testing.T, lists [][]string) []visit {
	t.Helper()
	next := func(p int) api.LsKey {
		if len(lists[p]) == 0 {
			return done
		}
		k := key(lists[p][0])
		lists[p] = lists[p][1:]
		return k
	}
	var keys []api.LsKey
	for p := range lists {
		keys = append(keys, next(p))
	}
	x, e := loser.Build(keys)
	var l []visit
	for e == api.OK {
		p, s, f := loser.Winner(x)
		if f != api.OK {
			e = f
			break
		}
		l = append(l, visit{s, p})
		keys[p] = next(p)
		x, _, e = loser.Replace(x, keys[p])
		if e == api.OK {
			checkOne(t, keys, result{tree: x}, result{tree: treeOf(keys)})
		}
	}
	if e != api.ErrEnd {
		t.Errorf("%v: it ends with %d", l, e)
	}
	return l
}

// P10.4: if the winner's key is replaced by greater and greater ones, keys come in ascending order, equal ones by the numbers of players.
func TestDrain(t *testing.T) {
	r := rand.New(rand.NewSource(4))
	for n := 1; n <= 32; n++ {
		lists := make([][]string, n)
		var want []visit
		for p := range lists {
			for i := range 40 {
				if r.Intn(4) == 0 {
					s := fmt.Sprintf("%02d", i)
					lists[p], want = append(lists[p], s), append(want, visit{s, p})
				}
			}
		}
		slices.SortStableFunc(want, func(a, b visit) int {
			if a.key < b.key {
				return -1
			}
			if a.key > b.key {
				return 1
			}
			return 0
		})
		if got := drain(t, lists); !slices.Equal(got, want) {
			t.Errorf("%d players: %v, want %v", n, got, want)
		}
	}
}

// A change is a tree, another key for its winner, and the result of Replace, which has no error.
type change struct {
	of    api.LsTree
	by    api.LsKey
	tree  api.LsTree
	games int
}

// changes returns changes of trees of all kinds.
func changes() []change {
	var l []change
	for i, keys := range append(smallRows(), mixedRows()...) {
		x := treeOf(keys)
		for j, k := range append(edgeKeys(), keys[x.Win]) {
			if (i+j)%4 > 0 {
				continue
			}
			if u, games, e := loser.Replace(x, k); e == api.OK {
				l = append(l, change{x, k, u, games})
			}
		}
	}
	return l
}

// P10.5: Replace changes nothing but the winner's key, the losers of its games, and Win; there are at most 5 games, and no more than the rounds of a power of 2.
func TestGames(t *testing.T) {
	all := changes()
	if len(all) < 1000 {
		t.Errorf("only %d changes", len(all))
	}
	for _, c := range all {
		n, most := len(c.of.Keys), 0
		for 1<<most < n {
			most++
		}
		mine := above(n, c.of.Win)[1:]
		if c.games != len(mine) || c.games > most || c.games > 5 {
			t.Errorf("%s: %d games", brief(c), c.games)
		}
		for node := range c.of.Lose {
			if c.tree.Lose[node] != c.of.Lose[node] && !slices.Contains(mine, node) {
				t.Errorf("%s: the node %d has changed", brief(c), node)
			}
		}
		keys := slices.Clone(c.of.Keys)
		keys[c.of.Win] = c.by
		if !slices.Equal(c.tree.Keys, keys) {
			t.Errorf("%s: other keys have changed", brief(c))
		}
	}
}

// P10.6: a tree is determined by its keys: what Replace returns is what Build does for these.
func TestDetermined(t *testing.T) {
	for _, c := range changes() {
		checkOne(t, c, buildOf(c.tree.Keys), result{call: "Build", tree: c.tree})
		n, e := loser.Check(c.tree)
		checkOne(t, c, result{n: n, e: e}, result{})
	}
}

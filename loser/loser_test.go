package loser_test

import (
	"slices"
	"testing"

	"bookend/api"
	"bookend/loser"
)

// P10.1 to P10.3: the examples of the chapter.
func TestExamples(t *testing.T) {
	x, e := loser.Build(keysOf("c", "a", "b", "a"))
	checkOne(t, "Build", result{tree: x, e: e}, result{tree: api.LsTree{Keys: keysOf("c", "a", "b", "a"), Lose: []int{0, 3, 0, 2}, Win: 1}})
	p, s, e := loser.Winner(x)
	checkOne(t, "Winner", result{n: p, key: s, e: e}, result{n: 1, key: "a"})
	u, n, e := loser.Replace(x, key("d"))
	checkOne(t, "Replace", result{tree: u, n: n, e: e}, result{tree: api.LsTree{Keys: keysOf("c", "d", "b", "a"), Lose: []int{0, 0, 1, 2}, Win: 3}, n: 2})
	u, _, e = loser.Replace(x, done)
	v, _, f := loser.Replace(u, done)
	if u.Win != 3 || v.Win != 2 || e != api.OK || f != api.OK {
		t.Errorf("Replace by done, and again: the winners %d (%d) and %d (%d)", u.Win, e, v.Win, f)
	}
	l, e := loser.Order(x)
	checkOne(t, "Order", result{l: l, e: e}, result{l: []int{1, 3, 2, 0}})
	u, n, e = loser.Replace(x, key(""))
	checkOne(t, "Replace by the empty key", result{tree: u, n: n, e: e}, result{e: api.ErrForm})
	u, e = loser.Build(nil)
	checkOne(t, "Build of none", result{tree: u, e: e}, result{e: api.ErrForm})
}

// P10.1, Build: all small rows of keys, and rows of each number of players.
func TestBuild(t *testing.T) {
	for _, keys := range append(smallRows(), mixedRows()...) {
		checkOne(t, keys, buildOf(keys), wantBuild(keys))
	}
}

// P10.1, Build: of each pair of keys, the greater one and the one that is done lose, in both places.
func TestBuildPairs(t *testing.T) {
	edges := edgeKeys()
	for i, a := range edges {
		for j, b := range edges {
			want := 0
			if i > j {
				want = 1
			}
			x, e := loser.Build([]api.LsKey{a, b})
			if x.Win != want || !slices.Equal(x.Lose, []int{0, 1 - want}) || e != api.OK {
				t.Errorf("Build of %s and %s: %v, %d, %d, want the winner %d", brief(a), brief(b), x.Lose, x.Win, e, want)
			}
		}
	}
}

// P10.1, Build: no keys, too many, and players that are done with a key.
func TestBuildErrors(t *testing.T) {
	for _, w := range wrongRows() {
		checkOne(t, w.keys, buildOf(w.keys), result{call: "Build", e: w.e})
	}
	for _, k := range keysOf("a", "-") {
		if x, e := loser.Build(slices.Repeat([]api.LsKey{k}, 32)); len(x.Keys) != 32 || len(x.Lose) != 32 || e != api.OK {
			t.Errorf("Build of 32 players: %s, %d", brief(x), e)
		}
	}
}

// P10.1 to P10.3: each function that has a tree returns the error of Build for its keys, whatever else it has.
func TestKeyErrors(t *testing.T) {
	for _, w := range wrongRows() {
		n := len(w.keys)
		for _, lose := range [][]int{nil, {0}, {1}, make([]int, n), make([]int, n+1), slices.Repeat([]int{-1}, n)} {
			for _, win := range []int{0, 1, -1, n - 1, n, 1 << 40} {
				for i, k := range []api.LsKey{key("z"), done, {Key: "z", Done: true}} {
					x := api.LsTree{Keys: w.keys, Lose: lose, Win: win}
					for _, got := range callAll(x, k) {
						checkOne(t, []any{x, i}, got, result{call: got.call, e: w.e})
					}
				}
			}
		}
	}
}

// P10.1 to P10.3: the trees of all small rows of keys, with another key of each kind.
func TestSmallTrees(t *testing.T) {
	others := append(keysOf("", "a", "aa", "b", "c", "-"), api.LsKey{Key: "a", Done: true}, api.LsKey{Key: "\x00", Done: true})
	for i, keys := range smallRows() {
		for j, k := range others {
			if len(keys) < 5 || (i+j)%4 == 0 {
				checkAll(t, treeOf(keys), k)
			}
		}
	}
}

// P10.1 to P10.3: trees of each number of players, with other keys.
func TestMixedTrees(t *testing.T) {
	edges := append(edgeKeys(), api.LsKey{Key: "a", Done: true}, key("same"), key("k00"), key("k09\xff"), key("k31"))
	for i, keys := range mixedRows() {
		x := treeOf(keys)
		checkAll(t, x, keys[x.Win])
		checkAll(t, x, keys[i%len(keys)])
		for j, k := range edges {
			if (i+j)%3 == 0 {
				checkAll(t, x, k)
			}
		}
	}
}

// wrongPlayers returns what could be in a tree of n players.
func wrongPlayers(n int) []int {
	l := []int{-1 << 63, -n, -2, -1, n, n + 1, 2 * n, 32, 33, 1 << 32, 1<<63 - 1}
	for p := range n {
		l = append(l, p)
	}
	return l
}

// P10.1, Check: each element of Lose, and Win, is wrong as anything but what it is.
func TestCheckOneWrong(t *testing.T) {
	for i, keys := range append(smallRows(), mixedRows()...) {
		if i%7 > 0 && len(keys) > 4 {
			continue
		}
		right := treeOf(keys)
		for _, p := range wrongPlayers(len(keys)) {
			for node := range right.Lose {
				x := treeCopy(right)
				x.Lose[node] = p
				n, e := loser.Check(x)
				want := result{}
				if p != right.Lose[node] {
					want = result{n: node, e: api.ErrForm}
				}
				checkOne(t, x, result{n: n, e: e}, want)
			}
			x := treeCopy(right)
			x.Win = p
			n, e := loser.Check(x)
			want := result{}
			if p != right.Win {
				want.e = api.ErrForm
			}
			checkOne(t, x, result{n: n, e: e}, want)
		}
	}
}

// treeCopy returns a copy of a tree.
func treeCopy(t api.LsTree) api.LsTree {
	return api.LsTree{Keys: slices.Clone(t.Keys), Lose: slices.Clone(t.Lose), Win: t.Win}
}

// P10.1, Check: of several wrong elements the first one counts, and before Win; all functions have its error.
func TestCheckFirstWrong(t *testing.T) {
	for i, keys := range mixedRows() {
		if i%5 > 0 {
			continue
		}
		right := treeOf(keys)
		for a := range right.Lose {
			for b := a; b < len(right.Lose); b += 1 + len(right.Lose)/5 {
				x := treeCopy(right)
				x.Lose[a]++
				x.Lose[b]--
				x.Lose[b] -= 5
				x.Win++
				n, e := loser.Check(x)
				checkOne(t, x, result{n: n, e: e}, result{n: a, e: api.ErrForm})
				checkAll(t, x, done)
			}
		}
		x := treeCopy(right)
		x.Win = (x.Win + 1) % 40
		checkAll(t, x, done)
	}
}

// P10.1, Check: a list Lose of another length is wrong as a whole, also if its elements, or Win, are wrong.
func TestCheckLength(t *testing.T) {
	for i, keys := range append(smallRows(), mixedRows()...) {
		if i%3 > 0 {
			continue
		}
		right := treeOf(keys)
		n := len(keys)
		wrong := slices.Repeat([]int{-1}, n)
		for _, lose := range [][]int{nil, right.Lose[:n-1], right.Lose[1:], wrong[:n-1], append(slices.Clone(right.Lose), 0), append(slices.Clone(wrong), 0), append(slices.Clone(right.Lose), right.Lose...), make([]int, 1000)} {
			for _, win := range []int{right.Win, right.Win + 1, -1} {
				x := api.LsTree{Keys: keys, Lose: lose, Win: win}
				node, e := loser.Check(x)
				checkOne(t, x, result{n: node, e: e}, result{e: api.ErrForm})
				checkAll(t, x, done)
			}
		}
	}
}

// P10.1, Check: a tree of other keys is none of these.
func TestCheckOtherKeys(t *testing.T) {
	rows := append(allRows(4, keysOf("a", "b", "-")), mixedRows()...)
	for i, keys := range rows {
		x := treeOf(keys)
		for j := 0; j < len(rows); j += 3 + i%11 {
			x.Keys = rows[j]
			n, e := loser.Check(x)
			want := checkOf(x)
			checkOne(t, x, result{call: "Check", n: n, e: e}, want)
		}
	}
}

// P10.2: if all players are done, ErrEnd comes after an error of the tree, and before one of the key.
func TestAllDone(t *testing.T) {
	for n := 1; n <= 32; n++ {
		x := treeOf(slices.Repeat([]api.LsKey{done}, n))
		for i, k := range []api.LsKey{done, key(""), key("a"), {Key: "a", Done: true}} {
			p, s, e := loser.Winner(x)
			checkOne(t, n, result{n: p, key: s, e: e}, result{e: api.ErrEnd})
			u, games, e := loser.Replace(x, k)
			checkOne(t, []int{n, i}, result{tree: u, n: games, e: e}, result{e: api.ErrEnd})
			wrong := treeCopy(x)
			wrong.Win++
			checkAll(t, wrong, k)
			wrong = treeCopy(x)
			wrong.Lose[n-1]++
			checkAll(t, wrong, k)
		}
		l, e := loser.Order(x)
		checkOne(t, n, result{l: l, e: e}, result{l: orderOf(x.Keys)})
		for p, q := range l {
			if p != q {
				t.Errorf("Order of %d players that are done: %v", n, l)
			}
		}
	}
}

// P10.2, Replace: a key that is less is ErrForm, the same one is not; done with a key is ErrArg, whether it is less or not.
func TestReplaceErrors(t *testing.T) {
	edges := edgeKeys()
	edges = edges[:len(edges)-1]
	for i, a := range edges {
		x := treeOf([]api.LsKey{done, a, done})
		for j, b := range edges {
			var want api.Errno
			if j < i {
				want = api.ErrForm
			}
			if _, _, e := loser.Replace(x, b); e != want {
				t.Errorf("Replace of %s by %s: %d, want %d", brief(a), brief(b), e, want)
			}
			if b.Key == "" {
				continue
			}
			u, n, e := loser.Replace(x, api.LsKey{Key: b.Key, Done: true})
			checkOne(t, []any{a, b}, result{tree: u, n: n, e: e}, result{e: api.ErrArg})
		}
	}
}

package loser_test

import (
	"fmt"
	"math/rand"
	"slices"
	"strings"
	"testing"

	"bookend/api"
	"bookend/loser"
)

// done and key are what players have.
var done = api.LsKey{Done: true}

func key(s string) api.LsKey { return api.LsKey{Key: s} }

// keysOf returns keys; "-" is a player that is done.
func keysOf(l ...string) []api.LsKey {
	var out []api.LsKey
	for _, s := range l {
		if s == "-" {
			out = append(out, done)
		} else {
			out = append(out, key(s))
		}
	}
	return out
}

// allRows returns all rows of n of these keys.
func allRows(n int, of []api.LsKey) [][]api.LsKey {
	rows := [][]api.LsKey{nil}
	for range n {
		var longer [][]api.LsKey
		for _, r := range rows {
			for _, k := range of {
				longer = append(longer, append(slices.Clone(r), k))
			}
		}
		rows = longer
	}
	return rows
}

// edgeKeys returns keys, ascending, at which an order could go wrong, also long ones; the last one is done.
func edgeKeys() []api.LsKey {
	long := strings.Repeat("k", 5000)
	return append(keysOf("", "\x00", "\x00\x00", "A", "a", "a\x00", "aa", "ab", "b", long, long+"\x00", long+"k", "z", "\x7f", "\x80", "é", "\xfe\xff", "\xff", "\xff\x00"), done)
}

// smallRows returns all rows of up to five keys of four kinds, and those of six of three kinds.
func smallRows() [][]api.LsKey {
	var l [][]api.LsKey
	for n := 1; n <= 5; n++ {
		l = append(l, allRows(n, keysOf("", "a", "b", "-"))...)
	}
	return append(l, allRows(6, keysOf("a", "b", "-"))...)
}

// mixedRows returns, for each number of players, rows of equal, ascending, descending and mixed keys, and of keys with players that are done.
func mixedRows() [][]api.LsKey {
	r := rand.New(rand.NewSource(10))
	edges := edgeKeys()
	var l [][]api.LsKey
	for n := 1; n <= 32; n++ {
		var up []api.LsKey
		for i := range n {
			up = append(up, key(fmt.Sprintf("k%02d", i)))
		}
		down := slices.Clone(up)
		slices.Reverse(down)
		l = append(l, up, down, slices.Repeat(keysOf("same"), n), slices.Repeat(keysOf(""), n), slices.Repeat(keysOf("-"), n))
		for range 12 {
			var few, any []api.LsKey
			for range n {
				few, any = append(few, edges[len(edges)-1-r.Intn(4)]), append(any, edges[r.Intn(len(edges))])
			}
			l = append(l, few, any)
		}
		for _, i := range []int{0, n / 2, n - 1} {
			one, other := slices.Repeat(keysOf("-"), n), slices.Repeat(keysOf("b"), n)
			one[i], other[i] = key("b"), done
			l = append(l, one, other)
		}
	}
	return l
}

// wrongRows returns keys of which there is no tree, each with the error of Build.
func wrongRows() []wrongRow {
	both := api.LsKey{Key: "a", Done: true}
	l := []wrongRow{{nil, api.ErrForm}, {[]api.LsKey{}, api.ErrForm}, {[]api.LsKey{both}, api.ErrArg}, {[]api.LsKey{{Key: "\x00", Done: true}}, api.ErrArg}}
	for _, n := range []int{1, 2, 3, 7, 16, 31, 32} {
		for _, i := range []int{0, n / 2, n - 1} {
			for _, k := range keysOf("", "b", "-") {
				row := slices.Repeat([]api.LsKey{k}, n)
				row[i] = both
				l = append(l, wrongRow{row, api.ErrArg})
			}
		}
	}
	for _, n := range []int{33, 34, 64, 65, 1000} {
		for _, k := range []api.LsKey{key(""), key("a"), done, both} {
			l = append(l, wrongRow{slices.Repeat([]api.LsKey{k}, n), api.ErrLong})
		}
	}
	return l
}

// A wrongRow is keys without a tree.
type wrongRow struct {
	keys []api.LsKey
	e    api.Errno
}

// rowErr is the error of keys, of which there may be a tree.
func rowErr(keys []api.LsKey) api.Errno {
	switch {
	case len(keys) < 1:
		return api.ErrForm
	case len(keys) > 32:
		return api.ErrLong
	case slices.ContainsFunc(keys, func(k api.LsKey) bool { return k.Done && len(k.Key) > 0 }):
		return api.ErrArg
	}
	return api.OK
}

// beats reports whether the player p wins against q.
func beats(keys []api.LsKey, p, q int) bool {
	a, b := keys[p], keys[q]
	switch {
	case !a.Done && b.Done:
		return true
	case a.Done && !b.Done:
		return false
	case !a.Done && a.Key != b.Key:
		return a.Key < b.Key
	}
	return p < q
}

// playerAt returns the player of a node.
func playerAt(keys []api.LsKey, node int) int {
	if node >= len(keys) {
		return node - len(keys)
	}
	left, right := playerAt(keys, 2*node), playerAt(keys, 2*node+1)
	if beats(keys, left, right) {
		return left
	}
	return right
}

// above returns the leaf of a player of n, and the nodes above it, up to the root.
func above(n, player int) []int {
	var l []int
	for node := n + player; node >= 1; node /= 2 {
		l = append(l, node)
	}
	return l
}

// treeOf is the tree of keys.
func treeOf(keys []api.LsKey) api.LsTree {
	t := api.LsTree{Keys: slices.Clone(keys), Lose: []int{0}, Win: playerAt(keys, 1)}
	for node := 1; node < len(keys); node++ {
		// The loser of a node is the player of that child which is not its own player.
		left, right := playerAt(keys, 2*node), playerAt(keys, 2*node+1)
		t.Lose = append(t.Lose, left+right-playerAt(keys, node))
	}
	return t
}

// orderOf is the order of players: each one has before it as many as beat it.
func orderOf(keys []api.LsKey) []int {
	l := make([]int, len(keys))
	for p := range keys {
		n := 0
		for q := range keys {
			if beats(keys, q, p) {
				n++
			}
		}
		l[n] = p
	}
	return l
}

// A result is what a function returned; what it does not have is zero.
type result struct {
	call string
	tree api.LsTree
	l    []int
	key  string
	n    int
	e    api.Errno
}

// sameTree reports whether two trees are equal.
func sameTree(a, b api.LsTree) bool {
	return slices.Equal(a.Keys, b.Keys) && slices.Equal(a.Lose, b.Lose) && a.Win == b.Win
}

// same reports whether two results are equal.
func same(a, b result) bool {
	return a.call == b.call && sameTree(a.tree, b.tree) && slices.Equal(a.l, b.l) && a.key == b.key && a.n == b.n && a.e == b.e
}

// buildOf and wantBuild are the result of Build, and what it must be.
func buildOf(keys []api.LsKey) result {
	t, e := loser.Build(keys)
	return result{call: "Build", tree: t, e: e}
}

func wantBuild(keys []api.LsKey) result {
	if e := rowErr(keys); e != api.OK {
		return result{call: "Build", e: e}
	}
	return result{call: "Build", tree: treeOf(keys)}
}

// callAll calls each function that has a tree.
func callAll(t api.LsTree, k api.LsKey) []result {
	n, e := loser.Check(t)
	out := []result{{call: "Check", n: n, e: e}}
	n, s, e := loser.Winner(t)
	out = append(out, result{call: "Winner", n: n, key: s, e: e})
	u, n, e := loser.Replace(t, k)
	out = append(out, result{call: "Replace", tree: u, n: n, e: e})
	l, e := loser.Order(t)
	return append(out, result{call: "Order", l: l, e: e})
}

// wantAll returns what each of them must return.
func wantAll(t api.LsTree, k api.LsKey) []result {
	check := checkOf(t)
	if e := check.e; e != api.OK {
		return []result{check, {call: "Winner", e: e}, {call: "Replace", e: e}, {call: "Order", e: e}}
	}
	winner, replaced := result{call: "Winner", e: api.ErrEnd}, result{call: "Replace", e: api.ErrEnd}
	if !t.Keys[t.Win].Done {
		winner = result{call: "Winner", n: t.Win, key: t.Keys[t.Win].Key}
		replaced = replacedOf(t, k)
	}
	return []result{check, winner, replaced, {call: "Order", l: orderOf(t.Keys)}}
}

// checkOf is what Check must return.
func checkOf(t api.LsTree) result {
	wrong := result{call: "Check", e: rowErr(t.Keys)}
	if wrong.e != api.OK {
		return wrong
	}
	want := treeOf(t.Keys)
	if sameTree(t, want) {
		return result{call: "Check"}
	}
	wrong.e = api.ErrForm
	if len(t.Lose) == len(want.Lose) {
		for wrong.n < len(want.Lose) && t.Lose[wrong.n] == want.Lose[wrong.n] {
			wrong.n++
		}
		wrong.n %= len(want.Lose)
	}
	return wrong
}

// replacedOf is what Replace must return if not all players are done.
func replacedOf(t api.LsTree, k api.LsKey) result {
	switch {
	case k.Done && k.Key != "":
		return result{call: "Replace", e: api.ErrArg}
	case !k.Done && k.Key < t.Keys[t.Win].Key:
		return result{call: "Replace", e: api.ErrForm}
	}
	keys := slices.Clone(t.Keys)
	keys[t.Win] = k
	return result{call: "Replace", tree: treeOf(keys), n: len(above(len(keys), t.Win)) - 1}
}

// brief returns the beginning of what there is, for messages.
func brief(x any) string {
	s := fmt.Sprintf("%+q", x)
	if len(s) > 300 {
		return fmt.Sprintf("%s .. (%d)", s[:300], len(s))
	}
	return s
}

// checkOne checks one result.
func checkOne(t *testing.T, of any, got, want result) {
	t.Helper()
	if !same(got, want) {
		t.Errorf("%s: %s, want %s", brief(of), brief(got), brief(want))
	}
}

// checkAll checks what each function that has a tree returns.
func checkAll(t *testing.T, x api.LsTree, k api.LsKey) {
	t.Helper()
	got, want := callAll(x, k), wantAll(x, k)
	for i := range want {
		checkOne(t, []any{x, k}, got[i], want[i])
	}
}

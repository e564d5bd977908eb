package loser

import (
	"cmp"
	"slices"
	"strings"

	"bookend/api"
)

// nobody is at a node, while a tree is made, until the first of its two players comes.
const nobody = -1

// play returns the tree of keys that were checked.
func play(keys []api.LsKey) api.LsTree {
	t := api.LsTree{Keys: slices.Clone(keys), Lose: make([]int, len(keys))}
	for node := 1; node < len(keys); node++ {
		t.Lose[node] = nobody
	}
	for p := range keys {
		climb(&t, p)
	}
	return t
}

// climb lets a player play the games above its leaf: at each node the loser stays, and the winner goes on to the next one. It returns how many games were played.
func climb(t *api.LsTree, player int) (games int) {
	choose := chooser(t.Keys)
up:
	for node := (len(t.Keys) + player) / 2; ; node /= 2 {
		switch {
		case node == 0:
			// Who comes from the root has won against all.
			t.Win = player
			break up
		case t.Lose[node] == nobody:
			t.Lose[node] = player
			break up
		}
		player, t.Lose[node] = choose(player, t.Lose[node])
		games++
	}
	return games
}

// chooser returns a function that says of two players which one wins, and which one loses.
func chooser(keys []api.LsKey) func(p, q int) (winner, loser int) {
	compare := order(keys)
	return func(p, q int) (winner, loser int) {
		if compare(p, q) < 0 {
			return p, q
		}
		return q, p
	}
}

// order returns a function that compares two players: less than 0 if the first one wins, more if the second one does.
func order(keys []api.LsKey) func(p, q int) int {
	return func(p, q int) int {
		a, b := keys[p], keys[q]
		if a.Done != b.Done {
			if b.Done {
				return -1
			}
			return 1
		}
		// Players that are done have the same key, the empty one.
		return cmp.Or(strings.Compare(a.Key, b.Key), cmp.Compare(p, q))
	}
}

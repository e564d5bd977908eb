package model_test

import (
	"maps"
	"math"
	"slices"
	"testing"

	"bookend/api"
	"bookend/model"
)

// Items of differences.
func fresh(key, val string) api.DfItem {
	return api.DfItem{Kind: api.DfNew, Key: key, New: val}
}
func gone(key, val string) api.DfItem {
	return api.DfItem{Kind: api.DfGone, Key: key, Old: val}
}
func other(key, old, val string) api.DfItem {
	return api.DfItem{Kind: api.DfOther, Key: key, Old: old, New: val}
}

// items is a list of items.
func items(l ...api.DfItem) []api.DfItem { return l }

// diffOf is what Diff must return.
func diffOf(a, b []api.Pair) ([]api.DfItem, api.Errno) {
	if e := firstErr(errOf(a), errOf(b)); e != api.OK {
		return nil, e
	}
	one, two := hashed(a), hashed(b)
	both := maps.Clone(one)
	maps.Copy(both, two)
	var l []api.DfItem
	for _, k := range slices.Sorted(maps.Keys(both)) {
		old, was := one[k]
		val, is := two[k]
		switch {
		case !was:
			l = append(l, fresh(k, val))
		case !is:
			l = append(l, gone(k, old))
		case old != val:
			l = append(l, other(k, old, val))
		}
	}
	return l, api.OK
}

// checkDiff checks Diff.
func checkDiff(t *testing.T, a, b []api.Pair) {
	t.Helper()
	want, we := diffOf(a, b)
	if l, e := model.Diff(a, b); !slices.Equal(l, want) || e != we {
		t.Errorf("Diff of %s and %s: %s, %d, want %s, %d", brief(a), brief(b), brief(l), e, brief(want), we)
	}
}

// P5.3, Diff: the example of the chapter, and others.
func TestDiffCases(t *testing.T) {
	m := pairs("a", "1", "c", "3")
	for i, x := range []struct {
		a, b []api.Pair
		want []api.DfItem
	}{
		{m, pairs("b", "2", "c", "3"), items(gone("a", "1"), fresh("b", "2"))}, {m, m, nil}, {nil, nil, nil}, {nil, m, items(fresh("a", "1"), fresh("c", "3"))}, {m, nil, items(gone("a", "1"), gone("c", "3"))},
		{m, pairs("a", "9", "c", "3"), items(other("a", "1", "9"))}, {m, pairs("a", "1", "c", ""), items(other("c", "3", ""))}, {pairs("a", ""), pairs("a", "x"), items(other("a", "", "x"))}, {nil, pairs("", ""), items(fresh("", ""))}, {pairs("", ""), nil, items(gone("", ""))}, {pairs("", ""), pairs("", ""), nil},
		{pairs("b", ""), pairs("a", ""), items(fresh("a", ""), gone("b", ""))}, {pairs("a", "", "b", ""), pairs("a\x00", ""), items(gone("a", ""), fresh("a\x00", ""), gone("b", ""))}, {pairs("\x80", ""), pairs("\x7f", ""), items(fresh("\x7f", ""), gone("\x80", ""))}, {pairs("ab", "1"), pairs("b", "1"), items(gone("ab", "1"), fresh("b", "1"))},
	} {
		if l, e := model.Diff(x.a, x.b); !slices.Equal(l, x.want) || e != api.OK {
			t.Errorf("%d: Diff: %s, %d, want %s", i, brief(l), e, brief(x.want))
		}
	}
}

// P5.3, Diff: maps of all kinds, also what is none; the error of the first one comes first.
func TestDiffKinds(t *testing.T) {
	all := append(someMaps(), wrongMaps()...)
	for _, a := range all {
		for _, b := range all {
			checkDiff(t, a, b)
		}
	}
	checkDiff(t, numbered("a", 4000), numbered("b", 4000))
}

// allMaps returns all maps with some of the keys, and each of the values.
func allMaps(keys, vals []string) [][]api.Pair {
	l := [][]api.Pair{nil}
	for _, k := range keys {
		for _, m := range l {
			for _, v := range vals {
				l = append(l, append(slices.Clip(m), api.Pair{Key: k, Val: v}))
			}
		}
	}
	return l
}

// P5.3 and P5.8: of all pairs of maps of some keys and values: Diff is empty exactly if they are equal, and the other way it is what Turn says.
func TestDiffAll(t *testing.T) {
	l := allMaps([]string{"", "a", "a\x00", "\x80"}, []string{"", "1"})
	if len(l) != 81 {
		t.Errorf("%d maps", len(l))
	}
	for _, a := range l {
		for _, b := range l {
			checkDiff(t, a, b)
			there, e := model.Diff(a, b)
			back, f := model.Diff(b, a)
			if len(there) == 0 != slices.Equal(a, b) || e != api.OK {
				t.Errorf("Diff of %s and %s: %s, %d", brief(a), brief(b), brief(there), e)
			}
			if turned := model.Turn(there); !slices.Equal(turned, back) || f != api.OK {
				t.Errorf("Turn of Diff of %s and %s: %s, but back %s", brief(a), brief(b), brief(turned), brief(back))
			}
		}
	}
}

// writesOf returns the writes of items, those that drop first: there may be no room for the others before them.
func writesOf(l []api.DfItem) []api.OpWrite {
	var drops, puts []api.OpWrite
	for _, x := range l {
		if x.Kind == api.DfGone {
			drops = append(drops, del(x.Key))
		} else {
			puts = append(puts, put(x.Key, x.New))
		}
	}
	return append(drops, puts...)
}

// checkLeads checks that the writes of a Diff lead from the first map to the second one.
func checkLeads(t *testing.T, a, b []api.Pair) {
	t.Helper()
	d, e := model.Diff(a, b)
	checkErr(t, "Diff", e, api.OK)
	m := a
	for part := range slices.Chunk(writesOf(d), 8) {
		m, e = model.Write(m, part)
		checkErr(t, "Write", e, api.OK)
	}
	checkPairs(t, "the writes of a Diff", m, api.OK, b, api.OK)
}

// P5.8: the writes of a Diff lead from the first map to the second one.
func TestDiffWrites(t *testing.T) {
	small := allMaps([]string{"", "a", "a\x00", "\x80"}, []string{"", "1"})
	for _, a := range small {
		for _, b := range small {
			checkLeads(t, a, b)
		}
	}
	large := [][]api.Pair{nil, numbered("", 100), numbered("a", 3999), numbered("", 4000)}
	for _, a := range large {
		for _, b := range large {
			checkLeads(t, a, b)
		}
	}
}

// P5.3, Turn: of each kind, and of what is none; twice it is the same.
func TestTurn(t *testing.T) {
	huge := repeat("x", 1<<20)
	for i, x := range []struct{ l, want []api.DfItem }{
		{nil, nil}, {items(), nil}, {items(fresh("a", "1")), items(gone("a", "1"))}, {items(gone("a", "1")), items(fresh("a", "1"))}, {items(other("a", "1", "2")), items(other("a", "2", "1"))}, {items(gone("b", "1"), fresh("a", "2"), other("a", "", "3"), gone("b", "1")), items(fresh("b", "1"), gone("a", "2"), other("a", "3", ""), fresh("b", "1"))},
		{items(api.DfItem{Kind: 1, Key: "k", Old: "o", New: "n"}), items(api.DfItem{Kind: 2, Key: "k", Old: "n", New: "o"})}, {items(api.DfItem{Kind: 2, Key: "k", Old: "o", New: "n"}), items(api.DfItem{Kind: 1, Key: "k", Old: "n", New: "o"})}, {items(other("k", "s", "s")), items(other("k", "s", "s"))}, {items(api.DfItem{}), items(api.DfItem{})}, {items(api.DfItem{Key: "k", Old: "o"}), items(api.DfItem{Key: "k", New: "o"})},
		{items(api.DfItem{Kind: 4, Old: "o", New: "n"}), items(api.DfItem{Kind: 4, Old: "n", New: "o"})}, {items(api.DfItem{Kind: -1, New: "n"}), items(api.DfItem{Kind: -1, Old: "n"})}, {items(api.DfItem{Kind: math.MinInt, Key: huge, Old: huge}), items(api.DfItem{Kind: math.MinInt, Key: huge, New: huge})}, {items(api.DfItem{Kind: math.MaxInt, Old: "o"}), items(api.DfItem{Kind: math.MaxInt, New: "o"})},
		{make([]api.DfItem, 1<<16), make([]api.DfItem, 1<<16)}, {slices.Repeat(items(fresh("a", "1")), 9000), slices.Repeat(items(gone("a", "1")), 9000)},
	} {
		got := model.Turn(x.l)
		if !slices.Equal(got, x.want) {
			t.Errorf("%d: Turn: %s, want %s", i, brief(got), brief(x.want))
		}
		if again := model.Turn(got); !slices.Equal(again, x.l) {
			t.Errorf("%d: Turn, twice: %s", i, brief(again))
		}
	}
}

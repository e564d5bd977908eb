package entries_test

import (
	"fmt"
	"slices"
	"testing"

	"bookend/api"
	"bookend/entries"
)

// checkedList is what CheckList must return.
func checkedList(l []api.Entry) (int, api.Errno) {
	if len(l) > 5000 {
		return -1, api.ErrLong
	}
	for i := range l {
		if e := errOf(l[i]); e != api.OK {
			return i, e
		}
		if i > 0 && l[i].Key <= l[i-1].Key {
			return i, api.ErrForm
		}
	}
	return 0, api.OK
}

// sorted is what Sort must return: again and again the first one that no other comes before.
func sorted(l []api.Entry) []api.Entry {
	left := slices.Clone(l)
	var out []api.Entry
	for len(left) > 0 {
		first := 0
		for i := range left {
			if before(left[i], left[first]) {
				first = i
			}
		}
		out = append(out, left[first])
		left = slices.Delete(left, first, first+1)
	}
	return out
}

// newest is what Newest must return.
func newest(l []api.Entry) []api.Entry {
	best := map[string]api.Entry{}
	for _, x := range l {
		if y, ok := best[x.Key]; !ok || x.Seq > y.Seq {
			best[x.Key] = x
		}
	}
	return ascending(best)
}

// over is what Over must return for lists that are ascending.
func over(old, fresh []api.Entry) ([]api.Entry, api.Errno) {
	all := map[string]api.Entry{}
	for _, x := range append(slices.Clone(old), fresh...) {
		all[x.Key] = x
	}
	if len(all) > 5000 {
		return nil, api.ErrLong
	}
	return ascending(all), api.OK
}

// ascending returns the entries by their keys.
func ascending(m map[string]api.Entry) []api.Entry {
	var keys []string
	for k := range m {
		keys = append(keys, k)
	}
	slices.Sort(keys)
	var l []api.Entry
	for _, k := range keys {
		l = append(l, m[k])
	}
	return l
}

// P3.2: lists that are ascending, and the first entry that is wrong.
func TestCheckListCases(t *testing.T) {
	a, b, c := put("a", "1", 5), del("a", 7), put("b", "2", 6)
	long := put(repeat("k", 33), "", 1)
	for i, x := range []struct {
		l     []api.Entry
		entry int
		e     api.Errno
	}{
		{nil, 0, api.OK}, {list(), 0, api.OK}, {list(a), 0, api.OK}, {list(a, c), 0, api.OK}, {list(b, c), 0, api.OK}, {list(put("", "", 1), a, put("a\x00", "", 1), put("ab", "", 1), c, del("\xff", 1)), 0, api.OK},
		{list(c, a), 1, api.ErrForm}, {list(a, b), 1, api.ErrForm}, {list(b, a), 1, api.ErrForm}, {list(a, a), 1, api.ErrForm}, {list(a, c, c), 2, api.ErrForm}, {list(a, c, b), 2, api.ErrForm}, {list(put("", "", 1), put("", "", 1)), 1, api.ErrForm}, {list(put("\x80", "", 1), put("\x7f", "", 1)), 1, api.ErrForm},
		{list(api.Entry{}), 0, api.ErrRange}, {list(long), 0, api.ErrLong}, {list(api.Entry{Val: "v", Dead: true, Seq: 1}), 0, api.ErrForm}, {list(a, api.Entry{Key: "b"}), 1, api.ErrRange},
		{list(put("l", "", 1), long), 1, api.ErrLong}, {list(a, api.Entry{}), 1, api.ErrRange}, {list(a, put("a", "", 0)), 1, api.ErrRange},
		{list(c, a, long), 1, api.ErrForm}, {list(c, long, a), 1, api.ErrLong}, {list(c, a, c), 1, api.ErrForm}, {list(api.Entry{}, long), 0, api.ErrRange}, {list(a, c, c, a, long), 2, api.ErrForm},
	} {
		if n, e := entries.CheckList(x.l); n != x.entry || e != x.e {
			t.Errorf("%d: CheckList: %d, %d, want %d, %d", i, n, e, x.entry, x.e)
		}
	}
}

// P3.2: lists of 5000 entries and of one more, which come before what is wrong in them.
func TestCheckListLong(t *testing.T) {
	l := numbered("", 5001)
	for i, x := range []struct {
		l     []api.Entry
		entry int
		e     api.Errno
	}{
		{l[:5000], 0, api.OK}, {l[1:], 0, api.OK}, {l, -1, api.ErrLong}, {make([]api.Entry, 5000), 0, api.ErrRange}, {make([]api.Entry, 5001), -1, api.ErrLong}, {make([]api.Entry, 100000), -1, api.ErrLong},
		{append(slices.Clone(l[1:5000]), l[0]), 4999, api.ErrForm}, {append(slices.Clone(l[:4999]), l[4998]), 4999, api.ErrForm}, {append(slices.Clone(l[:4999]), put("\xff", "", 0)), 4999, api.ErrRange},
	} {
		if n, e := entries.CheckList(x.l); n != x.entry || e != x.e {
			t.Errorf("%d: CheckList: %d, %d, want %d, %d", i, n, e, x.entry, x.e)
		}
	}
}

// P3.2 and P3.4: all short lists, also with what is no entry; Live, Find and Over have the error of CheckList.
func TestAscendingAll(t *testing.T) {
	some := list(put("", "", 3), put("a", "1", 5), del("a", 7), put("b", "2", 6), del("b", 1), put("b\x00", "", 2), put("k", "", 0), put(repeat("k", 33), "", 1), api.Entry{Key: "c", Val: "v", Dead: true, Seq: 1})
	var grow func(l []api.Entry)
	grow = func(l []api.Entry) {
		entry, we := checkedList(l)
		if n, e := entries.CheckList(l); n != entry || e != we {
			t.Errorf("CheckList of %s: %d, %d, want %d, %d", brief(l...), n, e, entry, we)
		}
		checkAscending(t, l, we)
		for _, x := range some {
			if len(l) < 4 {
				grow(append(slices.Clip(l), x))
			}
		}
	}
	grow(nil)
}

// checkAscending checks Live, Find and Over of a list for which CheckList has this error.
func checkAscending(t *testing.T, l []api.Entry, we api.Errno) {
	t.Helper()
	var live []api.Entry
	for _, x := range l {
		if !x.Dead && we == api.OK {
			live = append(live, x)
		}
	}
	got, e := entries.Live(l)
	checkEntries(t, "Live", got, e, live, we)
	for _, key := range []string{"", "a", "b", "b\x00", "c", "\xff"} {
		entry, fe := 0, we
		if we == api.OK {
			fe = api.ErrNone
			for i := range l {
				if l[i].Key == key {
					entry, fe = i, api.OK
				}
			}
		}
		if n, e := entries.Find(l, key); n != entry || e != fe {
			t.Errorf("Find of %q in %s: %d, %d, want %d, %d", key, brief(l...), n, e, entry, fe)
		}
	}
	for _, other := range [][]api.Entry{nil, list(put("a", "3", 2), put("c", "", 4))} {
		for _, both := range [][2][]api.Entry{{l, other}, {other, l}} {
			var want []api.Entry
			if we == api.OK {
				want, _ = over(both[0], both[1])
			}
			got, e := entries.Over(both[0], both[1])
			checkEntries(t, "Over", got, e, want, we)
		}
	}
}

// P3.3: Sort and Newest of entries in each order; of those with the same key and Seq the first one comes first.
func TestSortOrders(t *testing.T) {
	for _, l := range [][]api.Entry{
		nil, list(put("a", "1", 5)), list(put("a", "1", 5), del("a", 7), put("b", "2", 6)), list(put("a", "1", 5), put("a", "2", 5), del("a", 5)), list(put("b", "", 9), put("ab", "", 1), put("a", "", 2), put("", "", 3), put("\x80", "", 4), put("\x7f", "", 5)),
		list(put("a", "x", 5), put("a", "y", 5), del("a", 6), del("b", 1), put("b", "", 1), put("a", "z", 4)),
	} {
		orders(l, func(l []api.Entry) {
			got, e := entries.Sort(l)
			checkEntries(t, "Sort", got, e, sorted(l), api.OK)
			got, e = entries.Newest(l)
			checkEntries(t, "Newest", got, e, newest(l), api.OK)
		})
	}
}

// P3.3 and P3.6: lists of all lengths with few keys: Newest has each key once, with no greater Seq beside it, and Sort of it is the same.
func TestNewestMixed(t *testing.T) {
	d := &dice{1}
	for n := range 200 {
		l := d.mixed(n)
		s, e := entries.Sort(l)
		checkEntries(t, "Sort", s, e, sorted(l), api.OK)
		got, e := entries.Newest(l)
		checkEntries(t, "Newest", got, e, newest(l), api.OK)
		if _, e := entries.CheckList(got); e != api.OK {
			t.Errorf("CheckList of Newest of %s: %d", brief(l...), e)
		}
		again, e := entries.Sort(got)
		checkEntries(t, "Sort of Newest", again, e, got, api.OK)
		for _, x := range l {
			i, e := entries.Find(got, x.Key)
			if e != api.OK || got[i].Seq < x.Seq {
				t.Errorf("Newest of %s has not %s, but %s", brief(l...), brief(x), brief(got...))
			}
		}
	}
}

// P3.6: Newest of any order of entries with different Seqs is the same.
func TestNewestOrders(t *testing.T) {
	l := list(put("a", "1", 5), del("a", 7), put("b", "2", 6), put("a", "3", 9), del("b", 4), put("", "", 1))
	orders(l, func(l []api.Entry) {
		got, e := entries.Newest(l)
		checkEntries(t, "Newest", got, e, list(put("", "", 1), put("a", "3", 9), put("b", "2", 6)), api.OK)
	})
}

// P3.3: the examples, the limit of 5000, and the first error of Check.
func TestSortCases(t *testing.T) {
	a, b, c := put("a", "1", 5), del("a", 7), put("b", "2", 6)
	long, dead := put(repeat("k", 33), "", 1), api.Entry{Val: "v", Dead: true, Seq: 1}
	n, e := entries.Newest(list(a, b, c))
	checkEntries(t, "Newest", n, e, list(b, c), api.OK)
	n, e = entries.Live(n)
	checkEntries(t, "Live", n, e, list(c), api.OK)
	all := numbered("", 5001)
	slices.Reverse(all)
	same := slices.Repeat(list(a, b), 2500)
	for i, x := range []struct {
		l, sorted, newest []api.Entry
		e                 api.Errno
	}{
		{list(c, b, a), list(b, a, c), list(b, c), api.OK},
		{list(a, api.Entry{}), nil, nil, api.ErrRange}, {list(api.Entry{}, long), nil, nil, api.ErrRange}, {list(c, long, a, api.Entry{}), nil, nil, api.ErrLong}, {list(a, a, dead, api.Entry{}), nil, nil, api.ErrForm},
		{all[1:], numbered("", 5000), numbered("", 5000), api.OK}, {all, nil, nil, api.ErrLong}, {make([]api.Entry, 5000), nil, nil, api.ErrRange}, {make([]api.Entry, 5001), nil, nil, api.ErrLong},
		{same, append(slices.Repeat(list(b), 2500), slices.Repeat(list(a), 2500)...), list(b), api.OK}, {append(slices.Clone(same), a), nil, nil, api.ErrLong},
	} {
		got, e := entries.Sort(x.l)
		checkEntries(t, "Sort", got, e, x.sorted, x.e)
		got, e = entries.Newest(x.l)
		checkEntries(t, "Newest", got, e, x.newest, x.e)
		if s, e := entries.Print(x.l); e != x.e || e != api.OK && s != "" {
			t.Errorf("%d: Print: %.100q, %d, want %d", i, s, e, x.e)
		}
	}
}

// P3.4, Over: the examples, the limit of 5000, and which error comes first.
func TestOverCases(t *testing.T) {
	a, b, c := put("a", "1", 5), del("a", 7), put("b", "2", 6)
	long := put(repeat("k", 33), "", 1)
	low, high := numbered("0", 2501), numbered("1", 2501)
	for i, x := range []struct {
		old, fresh, want []api.Entry
		e                api.Errno
	}{
		{list(a, c), list(b), list(b, c), api.OK}, {list(b), list(a, c), list(a, c), api.OK}, {list(a), list(c), list(a, c), api.OK}, {list(c), list(a), list(a, c), api.OK},
		{nil, nil, nil, api.OK}, {list(), list(), nil, api.OK}, {list(a, c), nil, list(a, c), api.OK}, {nil, list(a, c), list(a, c), api.OK}, {list(put("a", "new", 9)), list(a), list(a), api.OK}, {list(put("", "", 1), c), list(a, put("c", "", 1)), list(put("", "", 1), a, c, put("c", "", 1)), api.OK},
		{list(c, a), list(api.Entry{}), nil, api.ErrForm}, {list(a), list(api.Entry{}), nil, api.ErrRange}, {list(api.Entry{}), list(long), nil, api.ErrRange}, {list(long), list(c, a), nil, api.ErrLong}, {list(a), list(c, c), nil, api.ErrForm},
		{low, high, nil, api.ErrLong}, {high, low, nil, api.ErrLong}, {low[1:], high[1:], append(slices.Clone(low[1:]), high[1:]...), api.OK}, {high[1:], low[1:], append(slices.Clone(low[1:]), high[1:]...), api.OK}, {low, high[1:], nil, api.ErrLong},
		{numbered("", 5000), numbered("", 5000), numbered("", 5000), api.OK}, {numbered("", 5000), list(put("\xff", "", 1)), nil, api.ErrLong}, {list(put("\xff", "", 1)), numbered("", 5000), nil, api.ErrLong}, {numbered("", 5000), list(put("", "", 1)), nil, api.ErrLong}, {numbered("1", 5000), list(put("0", "", 1), put("2", "", 1)), nil, api.ErrLong}, {numbered("", 5001), list(api.Entry{}), nil, api.ErrLong}, {list(api.Entry{}), numbered("", 5001), nil, api.ErrRange}, {nil, numbered("", 5001), nil, api.ErrLong},
	} {
		got, e := entries.Over(x.old, x.fresh)
		checkEntries(t, fmt.Sprintf("%d: Over", i), got, e, x.want, x.e)
	}
}

// P3.4, Find: keys at each place, and which error comes first.
func TestFindCases(t *testing.T) {
	l := numbered("", 5000)
	for i := range l {
		if i%499 == 0 || i == 4999 {
			if n, e := entries.Find(l, l[i].Key); n != i || e != api.OK {
				t.Errorf("Find: %d, %d, want %d", n, e, i)
			}
			if n, e := entries.Find(l, l[i].Key+"\x00"); n != 0 || e != api.ErrNone {
				t.Errorf("Find behind %d: %d, %d", i, n, e)
			}
		}
	}
	top := list(put("a", "", 1), del(repeat("\xff", 32), 2))
	for i, x := range []struct {
		l     []api.Entry
		key   string
		entry int
		e     api.Errno
	}{
		{top, repeat("\xff", 32), 1, api.OK}, {top, repeat("\xff", 31), 0, api.ErrNone}, {top, repeat("\xff", 33), 0, api.ErrLong}, {nil, repeat("k", 33), 0, api.ErrLong}, {nil, "", 0, api.ErrNone}, {list(), "a", 0, api.ErrNone}, {list(put("", "", 1)), "", 0, api.OK},
		{list(api.Entry{}), repeat("k", 33), 0, api.ErrRange}, {list(top[1], top[0]), repeat("k", 33), 0, api.ErrForm}, {list(top[0], top[0]), "a", 0, api.ErrForm}, {make([]api.Entry, 5001), "", 0, api.ErrLong}, {append(slices.Clone(top), api.Entry{Key: "b"}), "a", 0, api.ErrRange},
	} {
		if n, e := entries.Find(x.l, x.key); n != x.entry || e != x.e {
			t.Errorf("%d: Find: %d, %d, want %d, %d", i, n, e, x.entry, x.e)
		}
	}
}

// P3.4 and P3.7: Over of ascending lists is associative; with itself, or without entries, it is the list; if all Seqs of fresh are greater, it is Newest of both together.
func TestOverLayers(t *testing.T) {
	d := &dice{2}
	keys := []string{"", "\x00", "a", "a\x00", "ab", "b", "\x7f", "\x80", "\xff"}
	mustOver := func(old, fresh []api.Entry) []api.Entry {
		want, _ := over(old, fresh)
		got, e := entries.Over(old, fresh)
		checkEntries(t, "Over", got, e, want, api.OK)
		return got
	}
	for range 2000 {
		a, b, c := d.rising(keys, 9), d.rising(keys, 9), d.rising(keys, 9)
		checkEntries(t, "Over both ways", mustOver(mustOver(a, b), c), 0, mustOver(a, mustOver(b, c)), 0)
		checkEntries(t, "Over of itself", mustOver(a, a), 0, a, 0)
		checkEntries(t, "Over with no entries", mustOver(a, nil), 0, mustOver(nil, a), 0)
		checkEntries(t, "Over with no entries", mustOver(a, nil), 0, a, 0)
		for i := range b {
			b[i].Seq += 9
		}
		together, e := entries.Newest(append(slices.Clone(a), b...))
		checkEntries(t, "Newest of both", together, e, mustOver(a, b), api.OK)
		together, e = entries.Newest(append(slices.Clone(b), a...))
		checkEntries(t, "Newest of both", together, e, mustOver(a, b), api.OK)
	}
}

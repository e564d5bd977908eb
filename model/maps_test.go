package model_test

import (
	"slices"
	"testing"

	"bookend/api"
	"bookend/model"
)

// P5.1, Check: the limits of 32, 64 and 4000, just kept and just broken, the order of keys, and which error comes first.
func TestCheckCases(t *testing.T) {
	key, val := repeat("k", 33), repeat("v", 65)
	for i, x := range []struct {
		m    []api.Pair
		pair int
		e    api.Errno
	}{
		{nil, 0, api.OK}, {pairs(), 0, api.OK}, {pairs("", ""), 0, api.OK}, {pairs("a", "1", "c", "3"), 0, api.OK}, {pairs("", "", "\x00", "", "a", "", "a\x00", "", "ab", "", "b", "", "\x7f", "", "\x80", ""), 0, api.OK},
		{pairs(key[:32], val[:64]), 0, api.OK}, {pairs(repeat("\xff", 31), "", repeat("\xff", 32), repeat("\x00", 64)), 0, api.OK}, {pairs(repeat("é", 16), repeat("é", 32)), 0, api.OK},
		{pairs(key, ""), 0, api.ErrLong}, {pairs("", val), 0, api.ErrLong}, {pairs("a", "", key, ""), 1, api.ErrLong}, {pairs("a", "", "b", val), 1, api.ErrLong}, {pairs(repeat("é", 17), ""), 0, api.ErrLong}, {pairs("", repeat("é", 33)), 0, api.ErrLong}, {pairs(repeat("k", 1<<20), repeat("v", 1<<20)), 0, api.ErrLong},
		{pairs("b", "", "a", ""), 1, api.ErrForm}, {pairs("a", "1", "a", "2"), 1, api.ErrForm}, {pairs("", "", "", ""), 1, api.ErrForm}, {pairs("a", "", "", ""), 1, api.ErrForm}, {pairs("a", "", "c", "", "b", "", "d", ""), 2, api.ErrForm}, {pairs("a", "", "c", "", "a", ""), 2, api.ErrForm}, {pairs("\x80", "", "\x7f", ""), 1, api.ErrForm}, {pairs("a\x00", "", "a", ""), 1, api.ErrForm}, {pairs("b", "", "ab", ""), 1, api.ErrForm},
		{pairs("b", "", "a", val), 1, api.ErrLong}, {pairs("l", "", key, ""), 1, api.ErrLong}, {pairs("b", "", "a", "", key, ""), 1, api.ErrForm}, {pairs("a", "", "b", val, "a", ""), 1, api.ErrLong},
		{numbered("", 4000), 0, api.OK}, {numbered("", 4001), -1, api.ErrFull}, {slices.Concat(pairs(key, val), numbered("", 4000)), -1, api.ErrFull}, {make([]api.Pair, 4000), 1, api.ErrForm}, {make([]api.Pair, 4001), -1, api.ErrFull}, {slices.Concat(numbered("", 3999), pairs("0", "")), 3999, api.ErrForm}, {slices.Concat(numbered("", 3999), pairs(key, "")), 3999, api.ErrLong},
	} {
		if n, e := model.Check(x.m); n != x.pair || e != x.e {
			t.Errorf("%d: Check: %d, %d, want %d, %d", i, n, e, x.pair, x.e)
		}
	}
}

// P5.1, Check: all lists of at most three of these pairs.
func TestCheckAll(t *testing.T) {
	some := pairs("", "", "a", "1", "a", "2", "a\x00", repeat("v", 64), "b", repeat("v", 65), "\x80", "", repeat("\xff", 32), "", repeat("\xff", 33), "", repeat("\x00", 33), repeat("v", 65))
	seen := map[api.Errno]int{}
	check := func(m []api.Pair) {
		want, we := mapErr(m)
		if n, e := model.Check(m); n != want || e != we {
			t.Errorf("Check of %s: %d, %d, want %d, %d", brief(m), n, e, want, we)
		}
		seen[we]++
	}
	for _, p := range some {
		check([]api.Pair{p})
		for _, q := range some {
			check([]api.Pair{p, q})
			for _, r := range some {
				check([]api.Pair{p, q, r})
			}
		}
	}
	if len(seen) != 3 {
		t.Errorf("errors: %v", seen)
	}
}

// near is what Get, Floor and Ceiling must find: pairs from the last one at most the key, and from the first one at least the key, on.
func near(m []api.Pair, key string) (floor, ceiling []api.Pair) {
	for i, p := range m {
		if !above(p.Key, key) {
			floor = m[i:]
		}
		if ceiling == nil && !above(key, p.Key) {
			ceiling = m[i:]
		}
	}
	return floor, ceiling
}

// first returns the first pair, or ErrNone.
func first(m []api.Pair) (api.Pair, api.Errno) {
	if len(m) == 0 {
		return api.Pair{}, api.ErrNone
	}
	return m[0], api.OK
}

// checkNear checks Get, Floor and Ceiling.
func checkNear(t *testing.T, m []api.Pair, key string) {
	t.Helper()
	below, over := near(m, key)
	floor, fe := first(below)
	ceiling, ce := first(over)
	val, ge := "", api.ErrNone
	if ce == api.OK && ceiling.Key == key {
		val, ge = ceiling.Val, api.OK
	}
	if e := firstErr(errOf(m), keyErr(key)); e != api.OK {
		val, floor, ceiling, ge, fe, ce = "", api.Pair{}, api.Pair{}, e, e, e
	}
	v, e := model.Get(m, key)
	checkPair(t, "Get", api.Pair{Val: v}, e, api.Pair{Val: val}, ge, m, key)
	p, e := model.Floor(m, key)
	checkPair(t, "Floor", p, e, floor, fe, m, key)
	p, e = model.Ceiling(m, key)
	checkPair(t, "Ceiling", p, e, ceiling, ce, m, key)
}

// P5.2: the examples of the chapter.
func TestNearExamples(t *testing.T) {
	m := pairs("a", "1", "c", "3")
	for i, x := range []struct {
		key            string
		val            string
		floor, ceiling api.Pair
		g, f, c        api.Errno
	}{
		{"a", "1", m[0], m[0], api.OK, api.OK, api.OK},
		{"b", "", m[0], m[1], api.ErrNone, api.OK, api.OK},
		{"", "", api.Pair{}, m[0], api.ErrNone, api.ErrNone, api.OK},
		{"c", "3", m[1], m[1], api.OK, api.OK, api.OK},
		{"d", "", m[1], api.Pair{}, api.ErrNone, api.OK, api.ErrNone},
		{repeat("d", 32), "", m[1], api.Pair{}, api.ErrNone, api.OK, api.ErrNone},
		{repeat("d", 33), "", api.Pair{}, api.Pair{}, api.ErrLong, api.ErrLong, api.ErrLong},
	} {
		if v, e := model.Get(m, x.key); v != x.val || e != x.g {
			t.Errorf("%d: Get: %q, %d, want %q, %d", i, v, e, x.val, x.g)
		}
		p, e := model.Floor(m, x.key)
		checkPair(t, "Floor", p, e, x.floor, x.f)
		p, e = model.Ceiling(m, x.key)
		checkPair(t, "Ceiling", p, e, x.ceiling, x.c)
	}
}

// subsets returns all maps with some of the keys.
func subsets(keys []string) [][]api.Pair {
	l := [][]api.Pair{nil}
	for i, k := range keys {
		for _, m := range l {
			l = append(l, append(slices.Clip(m), api.Pair{Key: k, Val: repeat("v", i)}))
		}
	}
	return l
}

// P5.2, Get, Floor, Ceiling: all maps of some keys at the edges, and all of these keys.
func TestNearAll(t *testing.T) {
	keys := edgeKeys()
	for _, m := range subsets(keys) {
		for _, k := range keys {
			checkNear(t, m, k)
		}
	}
}

// P5.2, Get, Floor, Ceiling: the error of Check comes first, then that of the key.
func TestNearErrors(t *testing.T) {
	for _, m := range append(someMaps(), wrongMaps()...) {
		for _, k := range append(edgeKeys(), repeat("k", 33), repeat("\xff", 33), repeat("\x00", 1<<20)) {
			checkNear(t, m, k)
		}
	}
	full := numbered("", 4000)
	for i := range full {
		checkNear(t, full[:i], full[i].Key)
		checkNear(t, full[i:], full[i].Key)
	}
}

// checkPart checks Part.
func checkPart(t *testing.T, m []api.Pair, r api.KeRange) {
	t.Helper()
	want, we := partOf(m, r)
	l, e := model.Part(m, r)
	checkPairs(t, "Part", l, e, want, we, m, r)
}

// P5.2, Part: with and without bounds, ranges without keys, and which error comes first.
func TestPartCases(t *testing.T) {
	m, long := pairs("a", "1", "b", "2", "c", "3"), repeat("k", 33)
	unsorted := pairs("b", "", "a", "")
	for i, x := range []struct {
		m    []api.Pair
		r    api.KeRange
		want []api.Pair
		e    api.Errno
	}{
		{m, from(""), m, api.OK}, {m, from("a"), m, api.OK}, {m, from("a\x00"), m[1:], api.OK}, {m, from("c"), m[2:], api.OK}, {m, from("d"), nil, api.OK}, {nil, from(""), nil, api.OK},
		{m, upTo("", "c"), m[:2], api.OK}, {m, upTo("a", "b"), m[:1], api.OK}, {m, upTo("b", "b\x00"), m[1:2], api.OK}, {m, upTo("a\x00", "b"), nil, api.OK}, {m, upTo("b", "b"), nil, api.OK}, {m, upTo("c", "a"), nil, api.OK}, {m, upTo("", ""), nil, api.OK}, {m, upTo("", "z"), m, api.OK},
		{m, wrong("", "c"), nil, api.ErrForm}, {m, wrong("a", "\x00"), nil, api.ErrForm}, {m, from(long), nil, api.ErrLong}, {m, upTo("", long), nil, api.ErrLong}, {m, wrong("", long), nil, api.ErrLong}, {m, wrong(long, "a"), nil, api.ErrLong},
		{unsorted, from(""), nil, api.ErrForm}, {unsorted, from(long), nil, api.ErrForm}, {pairs(long, ""), wrong("", "c"), nil, api.ErrLong}, {numbered("", 4001), from(""), nil, api.ErrFull}, {numbered("", 4001), wrong("", "c"), nil, api.ErrFull},
	} {
		l, e := model.Part(x.m, x.r)
		if !slices.Equal(l, x.want) || e != x.e {
			t.Errorf("%d: Part: %s, %d, want %s, %d", i, brief(l), e, brief(x.want), x.e)
		}
	}
}

// P5.2, Part: all ranges of keys at the edges, also what is none, of many maps.
func TestPartAll(t *testing.T) {
	keys := edgeKeys()
	for _, m := range subsets(keys[2:8]) {
		for _, low := range keys {
			checkPart(t, m, from(low))
			for _, high := range keys {
				checkPart(t, m, upTo(low, high))
			}
		}
	}
	for _, m := range append(someMaps(), wrongMaps()...) {
		for _, r := range []api.KeRange{from(""), from("2"), upTo("1", "3"), upTo("a2", "a3999"), upTo("3", "1"), wrong("", "a"), from(repeat("k", 33)), upTo("", repeat("k", 33))} {
			checkPart(t, m, r)
		}
	}
}

// P5.2: Get, Floor and Ceiling say what Part says.
func TestPartNear(t *testing.T) {
	for _, m := range subsets(edgeKeys()[:8]) {
		for _, k := range edgeKeys()[:9] {
			from, e := model.Part(m, from(k))
			checkErr(t, "Part", e, api.OK)
			want, we := first(from)
			p, e := model.Ceiling(m, k)
			checkPair(t, "Ceiling", p, e, want, we)
			before, e := model.Part(m, upTo("", k+"\x00"))
			checkErr(t, "Part", e, api.OK)
			slices.Reverse(before)
			want, we = first(before)
			p, e = model.Floor(m, k)
			checkPair(t, "Floor", p, e, want, we)
		}
	}
}

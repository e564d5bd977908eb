package model_test

import (
	"slices"
	"testing"

	"bookend/api"
	"bookend/model"
)

// checkWrite checks Write.
func checkWrite(t *testing.T, m []api.Pair, l []api.OpWrite) {
	t.Helper()
	want, we := afterAll(m, l)
	n, e := model.Write(m, l)
	checkPairs(t, "Write", n, e, want, we, m, l)
}

// P5.1, Write: the example of the chapter, what puts and drops do, in order, and the limits just kept.
func TestWriteCases(t *testing.T) {
	m := pairs("a", "1", "c", "3")
	key, val := repeat("k", 32), repeat("v", 64)
	for i, x := range []struct {
		m    []api.Pair
		l    []api.OpWrite
		want []api.Pair
	}{
		{m, batch(put("b", "2"), del("a")), pairs("b", "2", "c", "3")}, {m, batch(put("a", "9")), pairs("a", "9", "c", "3")}, {m, batch(put("c", "")), pairs("a", "1", "c", "")}, {m, batch(put("", "0")), pairs("", "0", "a", "1", "c", "3")}, {m, batch(put("d", "4")), pairs("a", "1", "c", "3", "d", "4")},
		{m, batch(del("b")), m}, {m, batch(del("")), m}, {m, batch(del("z")), m}, {nil, batch(del("a")), nil}, {m, batch(del("a"), del("c")), nil}, {m, batch(del("c"), del("c")), m[:1]}, {nil, batch(put("", "")), pairs("", "")},
		{m, batch(put("b", "2"), del("b")), m}, {m, batch(del("b"), put("b", "2")), pairs("a", "1", "b", "2", "c", "3")}, {m, batch(put("b", "2"), put("b", "3")), pairs("a", "1", "b", "3", "c", "3")}, {m, batch(del("a"), put("a", "8")), pairs("a", "8", "c", "3")}, {m, batch(put("a", "8"), del("a")), m[1:]}, {m, batch(put("b", "2"), del("b"), put("b", "3")), pairs("a", "1", "b", "3", "c", "3")},
		{nil, batch(put(key, val)), pairs(key, val)}, {pairs(key, val), batch(del(key)), nil}, {nil, batch(put("h", "8"), put("g", "7"), put("f", "6"), put("e", "5"), put("d", "4"), put("c", "3"), put("b", "2"), put("a", "1")), pairs("a", "1", "b", "2", "c", "3", "d", "4", "e", "5", "f", "6", "g", "7", "h", "8")},
		{nil, batch(put("\x80", ""), put("\x7f", ""), put("ab", ""), put("a", ""), put("a\x00", "")), pairs("a", "", "a\x00", "", "ab", "", "\x7f", "", "\x80", "")},
	} {
		n, e := model.Write(x.m, x.l)
		if !slices.Equal(n, x.want) || e != api.OK {
			t.Errorf("%d: Write: %s, %d, want %s", i, brief(n), e, brief(x.want))
		}
		checkWrite(t, x.m, x.l)
	}
}

// P5.1, Write: the limits of 1, 8, 32 and 64, just broken, and which error comes first.
func TestWriteErrors(t *testing.T) {
	m, unsorted, full := pairs("a", "1"), pairs("b", "", "a", ""), numbered("", 4000)
	long, val := put(repeat("k", 33), ""), put("", repeat("v", 65))
	dead := api.OpWrite{Key: "a", Val: "v", Dead: true}
	both := api.OpWrite{Key: "a", Val: repeat("v", 65), Dead: true}
	for i, x := range []struct {
		m []api.Pair
		l []api.OpWrite
		e api.Errno
	}{
		{m, nil, api.ErrForm}, {m, batch(), api.ErrForm}, {m, slices.Repeat(batch(put("b", "")), 8), api.OK}, {m, slices.Repeat(batch(put("b", "")), 9), api.ErrLong}, {m, batch(long), api.ErrLong}, {m, batch(val), api.ErrLong}, {m, batch(del(repeat("k", 33))), api.ErrLong}, {m, batch(dead), api.ErrForm}, {m, batch(both), api.ErrLong}, {m, batch(api.OpWrite{Key: repeat("k", 33), Val: "v", Dead: true}), api.ErrLong},
		{m, batch(put("b", ""), long), api.ErrLong}, {m, batch(put("b", ""), dead), api.ErrForm}, {m, batch(dead, long), api.ErrForm}, {m, batch(val, dead), api.ErrLong}, {m, batch(put("b", ""), put("c", ""), put("d", ""), put("e", ""), put("f", ""), put("g", ""), put("h", ""), dead), api.ErrForm},
		{m, slices.Repeat(batch(dead), 9), api.ErrLong}, {unsorted, nil, api.ErrForm}, {unsorted, batch(long), api.ErrForm}, {pairs(repeat("k", 33), ""), nil, api.ErrLong}, {pairs(repeat("k", 33), ""), batch(dead), api.ErrLong}, {numbered("", 4001), nil, api.ErrFull}, {numbered("", 4001), batch(long), api.ErrFull}, {numbered("", 4001), batch(del("0000")), api.ErrFull},
		{full, nil, api.ErrForm}, {full, batch(put("x", ""), long), api.ErrLong}, {full, batch(put("x", ""), dead), api.ErrForm}, {full, batch(put("x", "")), api.ErrFull},
	} {
		n, e := model.Write(x.m, x.l)
		if e != x.e || e != api.OK && len(n) > 0 {
			t.Errorf("%d: Write: %s, %d, want %d", i, brief(n), e, x.e)
		}
	}
}

// P5.1, Write: how many pairs there are is what counts after all writes, not between them.
func TestWriteFull(t *testing.T) {
	for i, x := range []struct {
		size int
		l    []api.OpWrite
		want int
		e    api.Errno
	}{
		{3999, batch(put("x", "")), 4000, api.OK}, {3999, batch(put("x", ""), put("y", "")), 0, api.ErrFull}, {3999, batch(put("x", ""), put("x", "1")), 4000, api.OK}, {4000, batch(put("x", "")), 0, api.ErrFull}, {4000, batch(put("", "")), 0, api.ErrFull}, {4000, batch(put("0500", "")), 4000, api.OK}, {4000, batch(del("x")), 4000, api.OK}, {4000, batch(del("0000")), 3999, api.OK},
		{4000, batch(put("x", ""), del("0500")), 4000, api.OK}, {4000, batch(del("0500"), put("x", "")), 4000, api.OK}, {4000, batch(put("x", ""), del("x")), 4000, api.OK}, {4000, batch(del("x"), put("x", "")), 0, api.ErrFull}, {4000, batch(put("x", ""), del("0500"), put("y", "")), 0, api.ErrFull}, {4000, batch(put("x", ""), put("y", ""), del("0000"), del("3999")), 4000, api.OK}, {4000, batch(put("x", ""), put("y", ""), del("0000"), del("0000")), 0, api.ErrFull},
		{3992, batch(put("s", ""), put("t", ""), put("u", ""), put("v", ""), put("w", ""), put("x", ""), put("y", ""), put("z", "")), 4000, api.OK}, {3993, batch(put("s", ""), put("t", ""), put("u", ""), put("v", ""), put("w", ""), put("x", ""), put("y", ""), put("z", "")), 0, api.ErrFull},
	} {
		m := numbered("", x.size)
		if n, e := model.Write(m, x.l); len(n) != x.want || e != x.e {
			t.Errorf("%d: Write: %d pairs, %d, want %d, %d", i, len(n), e, x.want, x.e)
		}
		checkWrite(t, m, x.l)
	}
}

// P5.1, Write: all batches of at most two of these writes, to all of these maps.
func TestWriteAll(t *testing.T) {
	var writes []api.OpWrite
	for _, k := range edgeKeys() {
		writes = append(writes, put(k, "new"), del(k))
	}
	writes = append(writes, put(repeat("k", 33), ""), api.OpWrite{Key: "a", Val: "v", Dead: true})
	for _, m := range subsets(edgeKeys()[2:7]) {
		for _, w := range writes {
			checkWrite(t, m, batch(w))
			for _, v := range writes {
				checkWrite(t, m, batch(w, v))
			}
		}
	}
}

// P5.1, Write: maps and batches of all kinds, also what is none.
func TestWriteKinds(t *testing.T) {
	batches := append(wrongBatches(), batch(put("a", "9")), batch(put("b", ""), del("a")), batch(del("b"), put("\xff", "1"), put("", "2")))
	for _, m := range append(someMaps(), wrongMaps()...) {
		for _, l := range batches {
			checkWrite(t, m, l)
		}
	}
	d := &dice{5}
	var m []api.Pair
	for range 3000 {
		l := d.writes()
		checkWrite(t, m, l)
		m, _ = model.Write(m, l)
	}
}

// P5.8: a batch is its writes, one by one; and what Write returns is a map.
func TestWriteOneByOne(t *testing.T) {
	d := &dice{7}
	var m []api.Pair
	for range 3000 {
		l := d.writes()
		whole, e := model.Write(m, l)
		checkErr(t, "Write", e, api.OK)
		for _, w := range l {
			m, e = model.Write(m, batch(w))
			checkErr(t, "Write", e, api.OK)
		}
		checkPairs(t, "Write", whole, api.OK, m, api.OK, l)
		if n, e := model.Check(whole); n != 0 || e != api.OK {
			t.Errorf("Check of what Write returned: %d, %d", n, e)
		}
	}
}

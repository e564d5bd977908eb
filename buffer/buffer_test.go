package buffer_test

import (
	"math/rand"
	"slices"
	"testing"

	"bookend/api"
	"bookend/buffer"
)

// P14.1, New: from 1 to 16, and the empty buffer.
func TestNew(t *testing.T) {
	for most := 1; most <= 16; most++ {
		b, e := buffer.New(most)
		if b.Most != most || len(b.Entries) != 0 || e != api.OK {
			t.Errorf("New of %d: %s, %d", most, brief(b), e)
		}
		if n, e := buffer.Check(b); n != 0 || e != api.OK {
			t.Errorf("Check of New of %d: %d, %d", most, n, e)
		}
	}
	for _, most := range wrongMosts() {
		if b, e := buffer.New(most); b.Most != 0 || len(b.Entries) != 0 || e != api.ErrRange {
			t.Errorf("New of %d: %s, %d", most, brief(b), e)
		}
	}
}

// P14.1, Check: each error, and which one comes first.
func TestCheckCases(t *testing.T) {
	long := repeat("k", 33)
	full := keyed(1, lettered(17)...)
	for i, c := range []struct {
		b api.BfBuffer
		n int
		e api.Errno
	}{
		{of(1), 0, api.OK}, {of(16), 0, api.OK}, {of(1, full[:1]...), 0, api.OK}, {of(16, full[:16]...), 0, api.OK}, {of(16, keyed(1, edgeKeys()[2:]...)...), 0, api.OK}, {of(2, put("", "", 9), del("\x00", 9)), 0, api.OK},
		{of(0), 0, api.ErrRange}, {of(17), 0, api.ErrRange}, {of(-1), 0, api.ErrRange}, {of(17, full...), 0, api.ErrRange}, {of(0, put(long, "", 1)), 0, api.ErrRange}, {of(17, put("b", "", 1), put("a", "", 1)), 0, api.ErrRange},
		{of(1, full[:2]...), 0, api.ErrLong}, {of(15, full[:16]...), 0, api.ErrLong}, {of(16, full...), 0, api.ErrLong}, {of(1, put("b", "", 1), put("a", "", 0)), 0, api.ErrLong}, {of(2, make([]api.Entry, 5001)...), 0, api.ErrLong},
		{of(3, put("b", "", 1), put("a", "", 1), put("c", "", 1)), 1, api.ErrForm}, {of(3, put("a", "", 1), put("b", "", 1), put("b", "", 2)), 2, api.ErrForm}, {of(2, put("\x80", "", 1), put("\x7f", "", 1)), 1, api.ErrForm}, {of(2, put("", "", 2), put("", "", 1)), 1, api.ErrForm},
		{of(2, put(long, "", 1), put("a", "", 1)), 0, api.ErrLong}, {of(2, put("a", "", 1), put("b", repeat("v", 65), 1)), 1, api.ErrLong}, {of(2, put("a", "", 1), put("b", "", 0)), 1, api.ErrRange}, {of(1, put("a", "", 1e9+1)), 0, api.ErrRange}, {of(1, api.Entry{Key: "a", Val: "v", Dead: true, Seq: 1}), 0, api.ErrForm},
		{of(2, put("b", "", 1), put("a", "", 0)), 1, api.ErrRange}, {of(3, put("b", "", 1), put("a", "", 1), put("c", "", 0)), 1, api.ErrForm}, {of(3, put("b", "", 0), put("a", "", 1), put(long, "", 1)), 0, api.ErrRange}, {of(1, api.Entry{}), 0, api.ErrRange},
	} {
		if n, e := buffer.Check(c.b); n != c.n || e != c.e {
			t.Errorf("%d: Check of %s: %d, %d, want %d, %d", i, brief(c.b), n, e, c.n, c.e)
		}
	}
}

// P14.1, Check: full buffers, in which each of the entries is wrong, or the same as another one, or two change their places.
func TestCheckPlaces(t *testing.T) {
	full := of(16, keyed(1, edgeKeys()[1:17]...)...)
	check := func(b api.BfBuffer) {
		got := result{call: "Check"}
		got.n, got.e = buffer.Check(b)
		checkOne(t, b, got, checkOf(b))
	}
	check(full)
	for i := range full.Entries {
		for _, x := range append(wrongEntries(), full.Entries...) {
			l := slices.Clone(full.Entries)
			j := slices.Index(l, x)
			if l[i] = x; j >= 0 {
				l[j] = full.Entries[i]
				check(of(16, l...))
				l[j] = x
			}
			check(of(16, l...))
		}
	}
}

// P14.1 to P14.4: what is no buffer has the error of Check, in all functions, whatever their other arguments are.
func TestWrongBuffers(t *testing.T) {
	wrong := wrongEntries()
	for i, b := range wrongBuffers() {
		if checkOf(b).e == api.OK {
			t.Fatalf("%d: %s is no wrong buffer", i, brief(b))
		}
		for _, a := range []args{
			{b: b, key: "a", l: list(put("a", "", 1)), id: 1}, {b: b, id: 1e6, seq: 1e9}, {b: b, key: wrongKeys()[i%4], l: make([]api.Entry, 17), id: -1, seq: -1}, {b: b, key: "zz", l: list(wrong[i%len(wrong)]), seq: -1 << 63}, {b: b, key: "b", l: keyed(1, lettered(16)...), id: 1e6 + 1},
		} {
			checkAll(t, a)
		}
	}
}

// P14.1 to P14.4: the examples of the chapter.
func TestExamples(t *testing.T) {
	a, b, c := put("a", "1", 1), put("b", "2", 4), put("c", "3", 3)
	buf := of(2, a, c)
	for i, x := range []struct {
		x    api.Entry
		want []api.Entry
		work int
		e    api.Errno
	}{{put("c", "9", 5), list(a, put("c", "9", 5)), 1, api.OK}, {put("a", "9", 5), list(put("a", "9", 5), c), 2, api.OK}, {b, nil, 0, api.ErrFull}} {
		d, work, e := buffer.Write(buf, x.x)
		if !slices.Equal(d.Entries, x.want) || work != x.work || e != x.e || e == api.OK && d.Most != 2 {
			t.Errorf("%d: Write: %s, %d, %d", i, brief(d), work, e)
		}
	}
	if is, e := buffer.Fits(buf, list(a, c, put("a", "", 6))); !is || e != api.OK {
		t.Errorf("Fits of a, c, a: %v, %d", is, e)
	}
	if is, e := buffer.Fits(buf, list(a, b)); is || e != api.OK {
		t.Errorf("Fits of a, b: %v, %d", is, e)
	}
	r, d, e := buffer.Seal(buf, 7)
	if r.Id != 7 || !slices.Equal(r.Entries, list(a, c)) || d.Most != 2 || len(d.Entries) != 0 || e != api.OK {
		t.Errorf("Seal with 7: %s, %s, %d", brief(r), brief(d), e)
	}
}

// P14.2, Get: all keys that are there, and all others, tombstones too; and what is no key.
func TestGet(t *testing.T) {
	for _, b := range append(smallBuffers("", "a", "ab", "\xff"), randomBuffers(300)...) {
		for _, k := range append(append(edgeKeys(), "b", "abc", "zz"), wrongKeys()...) {
			got := result{call: "Get"}
			got.x, got.e = buffer.Get(b, k)
			checkOne(t, []any{b, k}, got, getOf(b, k))
		}
	}
}

// P14.2, Since: all buffers of up to four entries whose numbers are from 1 to 3, and each number.
func TestSince(t *testing.T) {
	seqs := [][]int64{nil}
	for at := 0; at < len(seqs); at++ {
		for n := int64(1); n <= 3 && len(seqs[at]) < 4; n++ {
			seqs = append(seqs, append(slices.Clone(seqs[at]), n))
		}
	}
	for i, row := range seqs {
		b := of(4)
		for j, n := range row {
			b.Entries = append(b.Entries, api.Entry{Key: lettered(4)[j], Dead: (i+j)%3 == 0, Seq: n})
		}
		for _, seq := range []int64{0, 1, 2, 3, 4, 1e9, 1<<63 - 1, -1, -2, -1 << 63} {
			checkSince(t, b, seq)
		}
	}
	ends := of(3, put("a", "", 1e9), put("b", "", 1), put("c", "", 1e9-1))
	for _, seq := range []int64{0, 1, 1e9 - 2, 1e9 - 1, 1e9, 1e9 + 1, 1 << 32} {
		checkSince(t, ends, seq)
	}
	for _, b := range randomBuffers(500) {
		for seq := range int64(22) {
			checkSince(t, b, seq)
		}
	}
}

// checkSince checks Since.
func checkSince(t *testing.T, b api.BfBuffer, seq int64) {
	t.Helper()
	got := result{call: "Since"}
	got.l, got.e = buffer.Since(b, seq)
	checkOne(t, []any{b, seq}, got, sinceOf(b, seq))
}

// P14.3 and P14.4: all batches of up to three of five keys, into buffers with any of these that are full, or nearly so; their first entries are written alone, too.
func TestSmallBatches(t *testing.T) {
	keys := []string{"", "a", "aa", "b", "\xff"}
	for _, b := range smallBuffers(keys[1:]...) {
		for i, row := range rows(3, keys...) {
			checkAll(t, args{b: b, key: keys[i%5], l: keyed(int64(100+i%3), row...), id: 1 + i%9, seq: int64(i % 6)})
		}
	}
}

// P14.3: batches of up to 16 entries, also of keys that are there already, into buffers of each size; those that fit, and those that do not.
func TestManyBatches(t *testing.T) {
	r := rand.New(rand.NewSource(3))
	var fit, full int
	for _, b := range randomBuffers(3000) {
		l := randomBatch(r, 16)
		for i := range l {
			if n := len(b.Entries); n > 0 && r.Intn(3) > 0 {
				l[i].Key = b.Entries[r.Intn(n)].Key
			}
		}
		checkAll(t, args{b: b, key: first(l).Key, l: l, id: 1 + r.Intn(1e6), seq: r.Int63n(30)})
		if fitsOf(b, l).is {
			fit++
		} else {
			full++
		}
	}
	if fit < 500 || full < 500 {
		t.Errorf("%d batches fit, %d do not", fit, full)
	}
}

// P14.3: how many entries there may be in a batch, and how many keys in both together, just so and one too many.
func TestBatchLimits(t *testing.T) {
	some := lettered(20)
	alike := slices.Repeat([]string{"c"}, 20)
	for most := 1; most <= 16; most++ {
		for n := range most + 1 {
			b := of(most, keyed(1, some[:n]...)...)
			for size := range 20 {
				checkAll(t, args{b: b, l: keyed(50, some[n:min(n+size, 20)]...), id: most})
				checkAll(t, args{b: b, l: keyed(50, some[max(n-size, 0):min(n+1, 20)]...), id: most})
				checkAll(t, args{b: b, l: keyed(50, alike[:size]...), id: most})
				down := slices.Clone(some[:size])
				slices.Reverse(down)
				checkAll(t, args{b: b, l: keyed(50, down...), id: most})
			}
		}
	}
}

// P14.3 and P14.4: which error comes first: more than 16 entries, the first entry with an error, and that they do not fit.
func TestBatchErrors(t *testing.T) {
	a, z := put("a", "1", 5), put("z", "2", 6)
	for _, b := range []api.BfBuffer{of(1), of(1, a), of(2, a), of(16, a)} {
		for _, x := range wrongEntries() {
			for _, y := range wrongEntries() {
				for _, l := range [][]api.Entry{list(x), list(a, x), list(z, x), list(x, y), list(a, x, y, z), list(put("b", "", 1), put("c", "", 1), x)} {
					checkAll(t, args{b: b, key: "a", l: l, id: 1})
				}
			}
			checkAll(t, args{b: b, key: "a", l: slices.Repeat(list(x), 16), id: 1})
			checkAll(t, args{b: b, key: "a", l: slices.Repeat(list(x), 17), id: 1})
			checkAll(t, args{b: b, key: "a", l: append(slices.Repeat(list(a), 16), x), id: 1})
			checkAll(t, args{b: b, key: "a", l: append(slices.Repeat(list(a), 15), x), id: 1})
		}
		for _, n := range []int{16, 17, 18, 5001, 1 << 16} {
			checkAll(t, args{b: b, key: "a", l: slices.Repeat(list(a), n), id: 1})
		}
	}
}

// P14.3: an entry is replaced whatever its number is, a tombstone by a value and a value by a tombstone.
func TestReplaced(t *testing.T) {
	all := list(put("b", "1", 5), put("b", "2", 5), put("b", "", 4), put("b", "1", 6), put("b", "1", 1), put("b", "1", 1e9), del("b", 5), del("b", 9), del("b", 1))
	for _, x := range all {
		b := of(3, put("a", "", 7), x, put("c", "", 8))
		for _, y := range all {
			c, work, e := buffer.Write(b, y)
			if !slices.Equal(c.Entries, list(b.Entries[0], y, b.Entries[2])) || work != 2 || e != api.OK {
				t.Errorf("Write of %s over %s: %s, %d, %d", brief(y), brief(x), brief(c), work, e)
			}
			checkAll(t, args{b: b, key: "b", l: list(y, x, y), id: 1})
		}
	}
}

// P14.4, Seal: all ids, and buffers with and without entries; that there are none comes before the error of the id.
func TestSeal(t *testing.T) {
	for _, b := range append(smallBuffers("", "a", "\xff"), randomBuffers(100)...) {
		for _, id := range append(someIds(), wrongIds()...) {
			got := result{call: "Seal"}
			got.r, got.b, got.e = buffer.Seal(b, id)
			checkOne(t, []any{b, id}, got, sealOf(b, id))
		}
	}
	for _, id := range []int{1, 0, 1000001} {
		if r, c, e := buffer.Seal(of(3), id); r.Id != 0 || len(r.Entries) != 0 || c.Most != 0 || e != api.ErrDown {
			t.Errorf("Seal of no entries with %d: %s, %s, %d", id, brief(r), brief(c), e)
		}
	}
}

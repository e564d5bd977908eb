package builder_test

import (
	"slices"
	"testing"

	"bookend/api"
	"bookend/builder"
)

// P6.1, New: from 1 to 5000, and an open builder without entries.
func TestNew(t *testing.T) {
	for _, most := range []int{1, 2, 3, 64, 1000, 4999, 5000} {
		b, e := builder.New(most)
		if b == nil || e != api.OK {
			t.Fatalf("New of %d: %v, %d", most, b, e)
		}
		checkState(t, b, plain{most: most})
	}
	for _, most := range []int{0, -1, -5000, 5001, 10000, 1<<32 + 1, 1<<63 - 1, -1 << 63} {
		if b, e := builder.New(most); b != nil || e != api.ErrRange {
			t.Errorf("New of %d: %v, %d", most, b, e)
		}
	}
}

// P6.1 to P6.4: the examples of the chapter.
func TestExamples(t *testing.T) {
	a, c := put("a", "1", 5), put("b", "2", 6)
	b := newBuilder(t, 2)
	for i, x := range []struct {
		c    call
		want answer
	}{
		{add(c), answer{}}, {add(a), answer{e: api.ErrForm}}, {add(c), answer{e: api.ErrForm}},
		{call{name: "Room"}, answer{n: 1}}, {call{name: "Last"}, answer{x: c}},
		{seal(0), answer{e: api.ErrRange}}, {seal(7), answer{r: run(7, c)}}, {seal(8), answer{e: api.ErrDown}}, {add(a), answer{e: api.ErrDown}},
	} {
		if got := ask(b, x.c); !sameAnswer(got, x.want) {
			t.Errorf("%d: %s: %s, want %s", i, brief(x.c), brief(got), brief(x.want))
		}
	}
	r, e := builder.Of(7, list(a, c))
	checkRun(t, "Of", r, e, run(7, a, c), api.OK)
	r, e = builder.Of(0, list(a, c))
	checkRun(t, "Of", r, e, run(0), api.ErrRange)
	r, e = builder.Of(7, nil)
	checkRun(t, "Of", r, e, run(0), api.ErrNone)
}

// someLists returns lists of entries: ascending ones, also of 5000 entries, and others, with each error and with several.
func someLists() [][]api.Entry {
	a, c := put("a", "1", 5), put("b", "2", 6)
	edges, full := edgeEntries(), numbered(5001)
	l := [][]api.Entry{
		nil, {}, list(a), list(a, c), list(del("a", 7), c), edges, edges[3:7], full[:4999], full[:5000], full[1:],
		list(c, a), list(a, a), list(a, del("a", 7)), list(del("a", 7), a), list(a, c, c), list(put("\x80", "", 1), put("\x7f", "", 1)), list(put("", "", 1), put("", "", 2)), list(put("ab", "", 1), a),
		full, make([]api.Entry, 5000), make([]api.Entry, 5001), make([]api.Entry, 1<<16), append(slices.Clone(full[:4999]), full[0]), append(slices.Clone(full[:4999]), full[4998]),
	}
	for _, x := range wrongEntries() {
		l = append(l, list(x), list(a, x), list(x, a), list(c, a, x), list(x, c, a), append(slices.Clone(full[:4999]), x), append(slices.Clone(full[:5000]), x))
	}
	return l
}

// P6.1, Of: all lists with all ids; the error of the id comes first, then that of the list, and that there are no entries comes last.
func TestOf(t *testing.T) {
	seen := map[api.Errno]int{}
	for _, l := range someLists() {
		for _, id := range append(someIds(), wrongIds()...) {
			want, we := runOf(id, l)
			r, e := builder.Of(id, l)
			checkRun(t, "Of", r, e, want, we, id, l)
			seen[e]++
		}
	}
	for _, e := range []api.Errno{api.OK, api.ErrLong, api.ErrNone, api.ErrForm, api.ErrRange} {
		if seen[e] == 0 {
			t.Errorf("the error %d was not seen", e)
		}
	}
}

// P6.2, Add: all pairs of entries, also of what is none: the second one must be above the first one.
func TestAddPairs(t *testing.T) {
	all := append(edgeEntries(), wrongEntries()...)
	for _, x := range all {
		for _, y := range all {
			b, p := newBuilder(t, 2), plain{most: 2}
			checkCall(t, b, &p, add(x))
			checkCall(t, b, &p, add(y))
			checkState(t, b, p)
		}
	}
}

// P6.2, Add: which error comes first: of a builder that is open, full, sealed, and both full and sealed.
func TestAddErrors(t *testing.T) {
	a, m, z := put("a", "", 1), put("m", "", 1), put("z", "", 1)
	wrong := wrongEntries()
	for _, x := range []struct {
		most      int
		sealed    bool
		low, high api.Errno
	}{{2, false, api.ErrForm, api.OK}, {1, false, api.ErrForm, api.ErrFull}, {2, true, api.ErrDown, api.ErrDown}, {1, true, api.ErrDown, api.ErrDown}} {
		b := newBuilder(t, x.most, m)
		if x.sealed {
			_, e := b.Seal(1)
			checkErr(t, "Seal", e, api.OK)
		}
		for _, y := range wrong {
			want := entryErr(y)
			if x.sealed {
				want = api.ErrDown
			}
			checkErr(t, "Add", b.Add(y), want, x, y)
		}
		for _, y := range list(a, m, del("m", 1e9), put("", "", 1), put("lzz", "", 1)) {
			checkErr(t, "Add", b.Add(y), x.low, x, y)
		}
		checkState(t, b, plain{most: x.most, l: list(m), sealed: x.sealed})
		checkErr(t, "Add", b.Add(z), x.high, x, z)
	}
}

// P6.2, P6.3 and P6.5: as many entries as there may be, and no more; after each of them Len, Room and Last say so.
func TestFull(t *testing.T) {
	all := numbered(5001)
	for _, most := range []int{1, 2, 13, 64, 4999, 5000} {
		b := newBuilder(t, most)
		for i, x := range all[:most] {
			checkLooks(t, b, plain{most: most, l: all[:i]})
			checkErr(t, "Add", b.Add(x), api.OK, x)
		}
		for range 2 {
			checkErr(t, "Add", b.Add(all[most]), api.ErrFull, most)
			checkErr(t, "Add", b.Add(all[most-1]), api.ErrForm, most)
			checkState(t, b, plain{most: most, l: all[:most]})
		}
		r, e := b.Seal(most)
		checkRun(t, "Seal", r, e, run(most, all[:most]...), api.OK, most)
		checkErr(t, "Add", b.Add(all[most]), api.ErrDown, most)
		checkState(t, b, plain{most: most, l: all[:most], sealed: true})
	}
}

// P6.4, Seal: which error comes first, and that with one the builder stays open.
func TestSealErrors(t *testing.T) {
	b := newBuilder(t, 2)
	for _, want := range []struct {
		good, bad api.Errno
	}{{api.ErrNone, api.ErrRange}, {api.OK, api.ErrRange}, {api.ErrDown, api.ErrDown}} {
		for _, id := range wrongIds() {
			r, e := b.Seal(id)
			checkRun(t, "Seal", r, e, run(0), want.bad, id)
		}
		switch want.good {
		case api.OK:
			r, e := b.Seal(1)
			checkRun(t, "Seal", r, e, run(1, put("a", "1", 5)), api.OK)
		default:
			for _, id := range someIds() {
				r, e := b.Seal(id)
				checkRun(t, "Seal", r, e, run(0), want.good, id)
			}
		}
		if want.good == api.ErrNone {
			checkErr(t, "Add", b.Add(put("a", "1", 5)), api.OK)
		}
	}
	checkState(t, b, plain{most: 2, l: list(put("a", "1", 5)), sealed: true})
}

// P6.4 and P6.5: a sealed run has the entries for which Add returned OK, and no other; with each id it is what Of returns for them.
func TestRuns(t *testing.T) {
	d := &dice{1}
	all := append(edgeEntries(), wrongEntries()...)
	for i := range 500 {
		b, added := newBuilder(t, d.roll(15)+1), []api.Entry(nil)
		for range d.roll(40) + 1 {
			// Keys rise more often than they fall, so that there are long runs too.
			x := all[min(len(added)+d.roll(4), len(all)-1)]
			if d.roll(3) == 0 {
				x = one(d, all)
			}
			if b.Add(x) == api.OK {
				added = append(added, x)
			}
		}
		id := someIds()[i%5]
		want, we := builder.Of(id, added)
		r, e := b.Seal(id)
		checkRun(t, "Seal", r, e, want, we, added)
		if we == api.OK {
			checkRun(t, "Seal", r, e, run(id, added...), api.OK, added)
		}
	}
}

package builder_test

import (
	"slices"
	"testing"

	"bookend/api"
	"bookend/builder"
)

// P1 (R5) and the promises of the chapter: methods of what is no builder, or only a copy of one, return ErrNil, or what is zero.
func TestNoBuilders(t *testing.T) {
	full := newBuilder(t, 1, put("a", "1", 5))
	shut := newBuilder(t, 2, put("a", "1", 5))
	_, e := shut.Seal(1)
	checkErr(t, "Seal", e, api.OK)
	full2, shut2, empty2 := *full, *shut, *newBuilder(t, 5)
	for i, b := range []*builder.Builder{nil, {}, new(builder.Builder), &full2, &shut2, &empty2} {
		for range 2 {
			for _, x := range append(edgeEntries(), wrongEntries()...) {
				checkErr(t, "Add", b.Add(x), api.ErrNil, i, x)
			}
			for _, id := range append(someIds(), wrongIds()...) {
				r, e := b.Seal(id)
				checkRun(t, "Seal", r, e, run(0), api.ErrNil, i, id)
			}
			if x, e := b.Last(); x != (api.Entry{}) || e != api.ErrNil {
				t.Errorf("%d: Last: %v, %d", i, x, e)
			}
			if b.Len() != 0 || b.Room() != 0 || b.Fork() != nil {
				t.Errorf("%d: Len %d, Room %d, Fork %v", i, b.Len(), b.Room(), b.Fork())
			}
		}
	}
	checkState(t, full, plain{most: 1, l: list(put("a", "1", 5))})
	checkState(t, shut, plain{most: 2, l: list(put("a", "1", 5)), sealed: true})
}

// P1 (R1, R2) and P6.7: any arguments are accepted, and with an error every other result is zero, and nothing changes.
func TestErrorsChangeNothing(t *testing.T) {
	edges := edgeEntries()
	for n := range 5 {
		for _, sealed := range []bool{false, true} {
			b, p := newBuilder(t, 4, edges[2:2+n]...), plain{most: 4, l: edges[2 : 2+n]}
			if sealed && n > 0 {
				checkCall(t, b, &p, seal(1))
			}
			calls := []call{}
			for _, x := range append(wrongEntries(), edges[:2]...) {
				calls = append(calls, add(x))
			}
			for _, id := range wrongIds() {
				calls = append(calls, seal(id))
			}
			for _, c := range calls {
				q := p
				if q.ask(c).e == api.OK {
					continue
				}
				if a := checkCall(t, b, &q, c); !sameAnswer(a, answer{e: a.e}) {
					t.Errorf("%s: error %d, but %s", brief(c), a.e, brief(a))
				}
				checkState(t, b, p)
			}
		}
	}
}

// P1 (R3) and P6.7: Of neither changes nor keeps its list, and its runs share no memory.
func TestOfMemory(t *testing.T) {
	for _, l := range someLists() {
		arg := slices.Clone(l)
		first, e := builder.Of(7, arg)
		second, f := builder.Of(7, arg)
		if !slices.Equal(arg, l) {
			t.Errorf("Of changed its list %s", brief(l))
		}
		want, we := runOf(7, l)
		scribble(first)
		checkRun(t, "Of, after another run was changed", second, f, want, we, l)
		if !slices.Equal(arg, l) {
			t.Errorf("a run of Of shares memory with its list %s", brief(l))
		}
		clear(arg)
		checkRun(t, "Of, after its list was changed", second, f, want, we, l)
		checkErr(t, "Of", e, we, l)
	}
}

// P1 (R3) and P6.7: a run shares no memory with its builder, with forks of this, and with their runs.
func TestSealMemory(t *testing.T) {
	all := numbered(40)
	for n := 1; n < 40; n++ {
		want := run(1, all[:n]...)
		b := newBuilder(t, 40, all[:n]...)
		f, g := b.Fork(), b.Fork()
		first, e := f.Seal(1)
		checkRun(t, "Seal", first, e, want, api.OK, n)
		scribble(first)
		checkState(t, b, plain{most: 40, l: all[:n]})
		checkState(t, f, plain{most: 40, l: all[:n], sealed: true})
		second, e := g.Seal(1)
		checkRun(t, "Seal", second, e, want, api.OK, n)
		checkErr(t, "Add", b.Add(all[n]), api.OK, n)
		third, e := b.Seal(1)
		checkRun(t, "Seal", third, e, run(1, all[:n+1]...), api.OK, n)
		scribble(third)
		checkRun(t, "Seal, after other runs were changed", second, e, want, api.OK, n)
		checkState(t, b, plain{most: 40, l: all[:n+1], sealed: true})
		checkState(t, g, plain{most: 40, l: all[:n], sealed: true})
	}
}

// P1 (R6): builders are independent of each other.
func TestBuildersApart(t *testing.T) {
	x, y := newBuilder(t, 3), newBuilder(t, 3)
	if x == y {
		t.Fatal("New returned the same builder twice")
	}
	p, q := plain{most: 3}, plain{most: 3}
	for i, c := range []call{add(put("a", "1", 5)), add(put("a", "1", 5)), add(put("b", "", 1)), seal(0), seal(1), add(put("c", "", 1))} {
		checkCall(t, x, &p, c)
		checkState(t, y, q)
		if i%2 == 1 {
			checkCall(t, y, &q, c)
			checkState(t, x, p)
		}
	}
}

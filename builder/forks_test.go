package builder_test

import (
	"slices"
	"testing"

	"bookend/api"
	"bookend/builder"
)

// P6.4, Fork: origin and fork go on apart, also if both have room behind the same entries.
func TestForksApart(t *testing.T) {
	all := numbered(40)
	for n := range 34 {
		b := newBuilder(t, 40, all[:n]...)
		forks := []*builder.Builder{b, b.Fork(), b.Fork()}
		forks = append(forks, forks[1].Fork())
		var want [][]api.Entry
		for range forks {
			want = append(want, slices.Clone(all[:n]))
		}
		for i := range 12 {
			at := i * 5 % 4
			x := put(all[n+i/4].Key, "of the fork", int64(at+1))
			checkErr(t, "Add", forks[at].Add(x), api.OK, n, at)
			want[at] = append(want[at], x)
			for j, f := range forks {
				checkState(t, f, plain{most: 40, l: want[j]})
			}
		}
		for j, f := range forks {
			r, e := f.Seal(j + 1)
			checkRun(t, "Seal", r, e, run(j+1, want[j]...), api.OK, n, j)
		}
	}
}

// P6.4, Fork: each part of the state is that of the origin: how many entries there may be, which there are, and whether it is sealed; and it is another builder.
func TestForkStates(t *testing.T) {
	edges := edgeEntries()
	for most := 1; most <= len(edges); most++ {
		for n := range most + 1 {
			for _, sealed := range []bool{false, true} {
				b, p := newBuilder(t, most, edges[:n]...), plain{most: most, l: edges[:n]}
				if sealed {
					checkCall(t, b, &p, seal(3))
				}
				f := b.Fork()
				if f == b || f == nil || f == b.Fork() {
					t.Errorf("Fork of %s: no other builder", brief(p))
				}
				checkState(t, f, p)
				checkState(t, f.Fork(), p)
			}
		}
	}
}

// P6.4, Fork: to seal a fork seals not its origin, nor the other way round; and a fork of one that is sealed is sealed.
func TestForksSealed(t *testing.T) {
	a, c := put("a", "1", 5), put("b", "2", 6)
	b := newBuilder(t, 3, a)
	f := b.Fork()
	r, e := f.Seal(1)
	checkRun(t, "Seal", r, e, run(1, a), api.OK)
	checkErr(t, "Add", b.Add(c), api.OK)
	checkState(t, b, plain{most: 3, l: list(a, c)})
	g := b.Fork()
	r, e = b.Seal(2)
	checkRun(t, "Seal", r, e, run(2, a, c), api.OK)
	checkErr(t, "Add", g.Add(put("c", "", 1)), api.OK)
	checkState(t, f, plain{most: 3, l: list(a), sealed: true})
	checkState(t, b, plain{most: 3, l: list(a, c), sealed: true})
	checkState(t, g, plain{most: 3, l: list(a, c, put("c", "", 1))})
	h := f.Fork()
	checkErr(t, "Add", h.Add(c), api.ErrDown)
	r, e = h.Seal(1)
	checkRun(t, "Seal", r, e, run(0), api.ErrDown)
	checkState(t, h, plain{most: 3, l: list(a), sealed: true})
}

// call returns a call: most often one of an entry that is above what p has.
func (d *dice) call(p plain) call {
	all := numbered(20)
	switch n := d.roll(20); {
	case n == 0:
		return seal(one(d, append(someIds(), wrongIds()...)))
	case n < 3:
		return add(one(d, wrongEntries()))
	case n < 6:
		return add(one(d, append(all, edgeEntries()...)))
	case n < 9:
		return one(d, looks())
	}
	x := all[min(len(p.l)+d.roll(2), len(all)-1)]
	x.Seq = int64(d.roll(1000) + 1)
	return add(x)
}

// P6.2 to P6.6: many builders, some of them forks of others: each is what the definitions say, whatever is done with all the others, and runs do not change any more.
func TestCalls(t *testing.T) {
	d := &dice{5}
	for range 40 {
		builders, plains := []*builder.Builder{}, []plain{}
		var runs, kept []api.Run
		for i := range 300 {
			if i%30 == 0 {
				p := plain{most: d.roll(16) + 1}
				builders, plains = append(builders, newBuilder(t, p.most)), append(plains, p)
			}
			at := d.roll(len(builders))
			if d.roll(8) == 0 {
				builders, plains = append(builders, builders[at].Fork()), append(plains, plains[at])
				continue
			}
			a := checkCall(t, builders[at], &plains[at], d.call(plains[at]))
			switch {
			case a.r.Id > 0 && d.roll(2) == 0:
				scribble(a.r)
			case a.r.Id > 0:
				runs, kept = append(runs, a.r), append(kept, run(a.r.Id, slices.Clone(a.r.Entries)...))
			}
		}
		for i, b := range builders {
			checkState(t, b, plains[i])
		}
		if !slices.EqualFunc(runs, kept, sameRun) {
			t.Errorf("runs: %s, want %s", brief(runs), brief(kept))
		}
	}
}

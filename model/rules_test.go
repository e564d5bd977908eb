package model_test

import (
	"math"
	"slices"
	"testing"

	"bookend/api"
	"bookend/model"
)

// A result is what a function returned; what it does not have is zero.
type result struct {
	call string
	n    int
	s    string
	p    api.Pair
	m    []api.Pair
	l    []api.DfItem
	e    api.Errno
}

// same reports whether two results are equal.
func same(a, b result) bool {
	return a.call == b.call && a.n == b.n && a.s == b.s && a.p == b.p && slices.Equal(a.m, b.m) && slices.Equal(a.l, b.l) && a.e == b.e
}

// An input is an argument for each parameter that the functions have.
type input struct {
	a, b  []api.Pair
	l     []api.OpWrite
	key   string
	r     api.KeRange
	items []api.DfItem
}

// resultsOf calls each function.
func resultsOf(x input) []result {
	n, e := model.Check(x.a)
	out := []result{{call: "Check", n: n, e: e}}
	m, e := model.Write(x.a, x.l)
	out = append(out, result{call: "Write", m: m, e: e})
	s, e := model.Get(x.a, x.key)
	out = append(out, result{call: "Get", s: s, e: e})
	p, e := model.Floor(x.a, x.key)
	out = append(out, result{call: "Floor", p: p, e: e})
	p, e = model.Ceiling(x.a, x.key)
	out = append(out, result{call: "Ceiling", p: p, e: e})
	m, e = model.Part(x.a, x.r)
	out = append(out, result{call: "Part", m: m, e: e})
	l, e := model.Diff(x.a, x.b)
	out = append(out, result{call: "Diff", l: l, e: e})
	return append(out, result{call: "Turn", l: model.Turn(x.items)})
}

// oddInputs returns inputs of all kinds, also what is no map, no batch, no key, no range and no item.
func oddInputs() []input {
	all := append(someMaps(), wrongMaps()...)
	batches := append(wrongBatches(), batch(put("a", "9")), batch(put("b", ""), del("a")), batch(del("\xff"), put("", repeat("v", 64))))
	keys := append(edgeKeys(), repeat("k", 33), repeat("\x00", 1<<20), "c")
	ranges := []api.KeRange{from(""), from("b"), upTo("", "c"), upTo("c", "a"), wrong("", "c"), from(repeat("k", 33)), upTo("a", repeat("k", 1<<20))}
	lists := [][]api.DfItem{nil, {}, items(fresh("a", "1")), items(gone("a", "1"), other("b", "1", "2")), {{}, {Kind: math.MinInt, Key: repeat("k", 1<<20), Old: "x"}}}
	var l []input
	for i := range 5 * len(all) {
		l = append(l, input{a: all[i%len(all)], b: all[(i*7+i/len(all))%len(all)], l: batches[i*5%len(batches)], key: keys[i%len(keys)], r: ranges[i%len(ranges)], items: lists[i%len(lists)]})
	}
	return l
}

// P1 (R1, R2, R6) and P5.8: all arguments are accepted, the same ones give the same results again, and with an error every other result is zero, but the integer of Check.
func TestAllArguments(t *testing.T) {
	errs, oks := map[string]int{}, map[string]int{}
	for i, x := range oddInputs() {
		first := resultsOf(x)
		if !slices.EqualFunc(first, resultsOf(x), same) {
			t.Errorf("%d: the same arguments give other results", i)
		}
		for _, r := range first {
			if r.e == api.OK {
				oks[r.call]++
				continue
			}
			errs[r.call]++
			empty := result{call: r.call, e: r.e}
			if r.call == "Check" {
				empty.n = r.n
			}
			if !same(r, empty) {
				t.Errorf("%d: %s: error %d, but there is another result", i, r.call, r.e)
			}
		}
	}
	for call, n := range oks {
		if errs[call] == 0 && call != "Turn" {
			t.Errorf("%s was OK %d times, but had no error", call, n)
		}
	}
	if len(oks) != 8 {
		t.Errorf("only %d functions were OK", len(oks))
	}
}

// P1 (R4): nil and empty lists are the same.
func TestEmptyLists(t *testing.T) {
	m, l := pairs("a", "1"), batch(put("b", "2"))
	for i, x := range [][2]input{{{}, {a: pairs()[:0:0], b: m[:0], l: l[:0], items: items()}}, {{b: m, l: l}, {a: m[:0], b: m, l: l, items: items(fresh("a", ""))[:0]}}, {{a: m}, {a: m, b: m[:0], l: l[:0]}}} {
		if !slices.EqualFunc(resultsOf(x[0]), resultsOf(x[1]), same) {
			t.Errorf("%d: other results with empty lists", i)
		}
	}
	x, y := model.New(), model.New()
	if e, f := x.Write(nil), y.Write(l[:0]); e != f || e != api.ErrForm {
		t.Errorf("Write of nothing: %d, %d", e, f)
	}
}

// P1 (R3) and P5.8: arguments are not changed, not even behind their length.
func TestArgumentsKept(t *testing.T) {
	for i, x := range oddInputs() {
		behind := input{a: append(slices.Clone(x.a), api.Pair{Key: "behind"}), b: append(slices.Clone(x.b), api.Pair{Key: "behind"}), l: append(slices.Clone(x.l), del("behind")), items: append(slices.Clone(x.items), fresh("behind", ""))}
		kept := input{a: slices.Clone(behind.a), b: slices.Clone(behind.b), l: slices.Clone(behind.l), items: slices.Clone(behind.items)}
		given := input{a: behind.a[:len(x.a)], b: behind.b[:len(x.b)], l: behind.l[:len(x.l)], key: x.key, r: x.r, items: behind.items[:len(x.items)]}
		resultsOf(given)
		model.New().Write(given.l)
		if !slices.Equal(behind.a, kept.a) || !slices.Equal(behind.b, kept.b) || !slices.Equal(behind.l, kept.l) || !slices.Equal(behind.items, kept.items) {
			t.Errorf("%d: an argument was changed", i)
		}
	}
}

// spoil overwrites a list, and what may lie behind its length.
func spoil[T any](l []T, with T) {
	l = l[:cap(l)]
	for i := range l {
		l[i] = with
	}
}

// spoilInput overwrites the lists of an input, and spoilResults those of results.
func spoilInput(x input) {
	spoil(x.a, api.Pair{Key: "spoilt"})
	spoil(x.b, api.Pair{Key: "spoilt"})
	spoil(x.l, put("spoilt", ""))
	spoil(x.items, fresh("spoilt", ""))
}

func spoilResults(l []result) {
	for _, r := range l {
		spoil(r.m, api.Pair{Key: "spoilt"})
		spoil(r.l, fresh("spoilt", ""))
	}
}

// P1 (R3) and P5.8: results are new memory: who overwrites one changes neither an argument nor another result, and who overwrites an argument changes no result.
func TestResultsFresh(t *testing.T) {
	m := pairs("a", "1", "b", "2", "c", "3")
	for i, l := range [][]api.OpWrite{batch(del("x")), batch(put("a", "1")), batch(put("b", "9")), batch(put("x", "")), batch(del("b")), batch(put("x", ""), del("x"))} {
		for _, r := range []api.KeRange{from(""), from("b"), upTo("a", "c"), upTo("", "a")} {
			fill := func() input {
				return input{a: slices.Clone(m), b: pairs("b", "3", "d", "4"), l: slices.Clone(l), key: "b", r: r, items: items(fresh("a", "1"), other("b", "1", "2"))}
			}
			want, x := resultsOf(fill()), fill()
			kept := resultsOf(x)
			spoilResults(resultsOf(x))
			if fine := fill(); !slices.Equal(x.a, fine.a) || !slices.Equal(x.b, fine.b) || !slices.Equal(x.l, fine.l) || !slices.Equal(x.items, fine.items) {
				t.Errorf("%d: an argument follows a result", i)
			}
			spoilInput(x)
			for j := range kept {
				if !same(kept[j], want[j]) {
					t.Errorf("%d: %s follows an argument, or another result", i, kept[j].call)
				}
				spoilResults(kept[j : j+1])
			}
		}
	}
}

// P1 (R3) and P5.4 to P5.6: a model neither keeps its arguments nor gives its own memory away.
func TestModelMemory(t *testing.T) {
	x := model.New()
	l := append(batch(put("a", "1"), put("b", "2"), put("c", "3")), put("d", "4"))
	m := pairs("a", "1", "b", "2", "c", "3")
	checkErr(t, "Write", x.Write(l[:3]), api.OK)
	spoil(l, put("spoilt", ""))
	checkPin(t, x, handle(1, 1), api.OK)
	checkPin(t, x, handle(2, 1), api.OK)
	checkOpen(t, x, handle(0, 0), from("b"), handle(1, 1), api.OK)
	checkOpen(t, x, handle(1, 1), from(""), handle(2, 1), api.OK)
	for _, h := range []api.Handle{handle(0, 0), handle(1, 1), handle(2, 1)} {
		got, e := x.Map(h)
		checkPairs(t, "Map", got, e, m, api.OK, h)
		spoil(got, api.Pair{Key: "spoilt"})
		for _, h := range []api.Handle{handle(0, 0), handle(1, 1), handle(2, 1)} {
			checkMap(t, x, h, m, api.OK)
		}
	}
	pins, cursors := x.Live()
	spoil(pins, handle(9, 9))
	if !slices.Equal(cursors, handles(2, 1)) {
		t.Errorf("cursors share memory with pins: %v", cursors)
	}
	spoil(cursors, handle(9, 9))
	checkLive(t, x, handles(2, 1), handles(2, 1))
	checkPairs(t, "Next", walked(t, x.Next, handle(1, 1)), api.OK, m[1:], api.OK)
	checkPairs(t, "Next", walked(t, x.Next, handle(2, 1)), api.OK, m, api.OK)
}

// P1 (R5) and P5.4: a model that is nil, zero, or a copy, returns ErrNil, or nothing, whatever the arguments are, and nothing is done.
func TestNotMade(t *testing.T) {
	x := modelOf(t, pairs("a", "1"))
	checkPin(t, x, handle(1, 1), api.OK)
	checkOpen(t, x, handle(0, 0), from(""), handle(1, 1), api.OK)
	twin := *x
	for i, y := range []*model.Model{nil, {}, new(model.Model), &twin} {
		for range 2 {
			for _, name := range names {
				for _, c := range []call{{l: batch(put("a", "9"))}, {l: batch(put("a", "9")), h: handle(1, 1)}, {h: handle(1, 2), r: wrong("", "a")}, {h: handle(-1, 1), r: from("a")}} {
					c.name = name
					want := answer{e: api.ErrNil}
					if name == "Live" {
						want = answer{}
					}
					if got := ask(y, c); !sameAnswer(got, want) {
						t.Errorf("%d: %s: %s", i, brief(c), brief(got))
					}
				}
			}
		}
	}
	checkMap(t, x, handle(0, 0), pairs("a", "1"), api.OK)
	checkLive(t, x, handles(1, 1), handles(1, 1))
	checkPairs(t, "Next", walked(t, x.Next, handle(1, 1)), api.OK, pairs("a", "1"), api.OK)
}

// P1 (R6): models are independent of each other.
func TestModelsApart(t *testing.T) {
	d := &dice{11}
	x, y := [2]*model.Model{model.New(), model.New()}, [2]*plain{{}, {}}
	if x[0] == x[1] {
		t.Error("New returned the same model twice")
	}
	for range 500 {
		i := d.roll(2)
		checkCall(t, x[i], y[i], d.call(y[i], 3))
		for j := range x {
			checkState(t, x[j], y[j])
		}
	}
	for j := range x {
		checkCursors(t, x[j], y[j])
	}
}

// P1 (R2) and P5.4, P5.5: with an error of a method every other result is zero, and nothing changes.
func TestErrorsChangeNothing(t *testing.T) {
	d := &dice{13}
	x, p := model.New(), &plain{}
	for range 300 {
		checkCall(t, x, p, d.call(p, 4))
	}
	seen := 0
	for range 2000 {
		c := d.call(p, 4)
		old := plain{head: p.head, pins: slices.Clone(p.pins), cursors: slices.Clone(p.cursors)}
		got := ask(x, c)
		if got.e == api.OK {
			// The plain follows, so that both stay alike.
			p.ask(c)
			continue
		}
		seen++
		if !sameAnswer(got, answer{e: got.e}) {
			t.Errorf("%s: error %d, but %s", brief(c), got.e, brief(got))
		}
		checkState(t, x, &old)
		checkCursors(t, x, &old)
	}
	if seen < 300 {
		t.Errorf("only %d errors", seen)
	}
}

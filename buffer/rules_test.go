package buffer_test

import (
	"math/rand"
	"slices"
	"testing"

	"bookend/api"
	"bookend/buffer"
	"bookend/entries"
	"bookend/runs"
)

// oddArgs returns arguments of all kinds: what the functions accept, and what they do not.
func oddArgs() []args {
	batches := [][]api.Entry{nil, keyed(7, "a"), keyed(8, "c", "b", "c"), keyed(30, lettered(16)...), keyed(30, lettered(17)...), keyed(2, edgeKeys()[:16]...), slices.Repeat(keyed(2, ""), 16), make([]api.Entry, 17)}
	for _, x := range wrongEntries() {
		batches = append(batches, list(x), list(put("a", "", 9), x))
	}
	tried := append(edgeKeys(), wrongKeys()...)
	ids := append(someIds(), wrongIds()...)
	seqs := []int64{0, 1, 5, 1e9, 1<<63 - 1, -1, -1 << 63}
	var all []args
	for i, b := range slices.Concat(wrongBuffers(), smallBuffers("", "a", "b"), randomBuffers(60)) {
		for j, l := range batches {
			n := i + j
			all = append(all, args{b, tried[n%len(tried)], l, ids[n%len(ids)], seqs[n%len(seqs)]})
		}
	}
	return all
}

// P1 (R1, R2, R6) and P14.7: all arguments are accepted, the same ones give the same results again, and with an error every other result is zero, but the integer of Check.
func TestAllArguments(t *testing.T) {
	failed, passed := map[string]bool{}, map[string]bool{}
	for _, a := range oddArgs() {
		checkAll(t, a)
		got, again := callAll(a), callAll(a)
		if !slices.EqualFunc(got, again, same) {
			t.Errorf("%s: the same arguments give other results", brief(a))
		}
		for _, x := range got {
			empty := result{call: x.call, e: x.e}
			if x.call == "Check" {
				empty.n = x.n
			}
			if x.e != api.OK && !same(x, empty) || x.call == "Check" && x.e == api.OK && x.n != 0 {
				t.Errorf("%s: %s: there is a result beside the error", brief(a), brief(x))
			}
			failed[x.call] = failed[x.call] || x.e != api.OK
			passed[x.call] = passed[x.call] || x.e == api.OK
		}
	}
	for call, ok := range failed {
		if !ok || !passed[call] {
			t.Errorf("%s had an error: %v, and none: %v", call, ok, passed[call])
		}
	}
}

// P1 (R4): nil and empty lists are the same.
func TestEmptyLists(t *testing.T) {
	for _, none := range [][]api.Entry{nil, {}, make([]api.Entry, 0, 20), keyed(1, "a", "b")[:0]} {
		for _, most := range []int{-1, 0, 1, 2, 16, 17} {
			for _, l := range [][]api.Entry{none, keyed(5, "a"), keyed(5, "b", "a"), keyed(5, "c", "b", "a")} {
				checkAll(t, args{b: of(most, none...), key: "a", l: l, id: 1})
				checkAll(t, args{b: api.BfBuffer{Most: most, Entries: none}, key: "a", l: l, id: 1})
			}
			checkAll(t, args{b: of(most, keyed(5, "a")...), key: "a", l: none, id: 1})
		}
	}
}

// behind is what lies behind the length of each list of spare.
var behind = put("behind", "", 77)

// spare returns a copy of a list with more entries behind its length, and a function that reports whether all of it is as it was.
func spare(l []api.Entry) (with []api.Entry, kept func() bool) {
	all := append(slices.Clone(l), slices.Repeat(list(behind), 20)...)
	before := slices.Clone(all)
	return all[:len(l)], func() bool { return slices.Equal(all, before) }
}

// P1 (R3) and P14.7: arguments are not changed, not even behind their length.
func TestArgumentsKept(t *testing.T) {
	for _, a := range oddArgs() {
		b := a
		var kept, keptToo func() bool
		b.b.Entries, kept = spare(a.b.Entries)
		b.l, keptToo = spare(a.l)
		callAll(b)
		if !kept() || !keptToo() {
			t.Errorf("%s: an argument was changed", brief(a))
		}
	}
}

// scribble writes over all that lists have, also behind their length.
func scribble(lists ...[]api.Entry) {
	for _, l := range lists {
		l = l[:cap(l)]
		for i := range l {
			l[i] = put("scribbled", "", -1)
		}
	}
}

// listsOf returns all lists of results.
func listsOf(l ...result) [][]api.Entry {
	var lists [][]api.Entry
	for _, x := range l {
		lists = append(lists, x.l, x.b.Entries, x.r.Entries)
	}
	return lists
}

// P1 (R3) and P14.7: results share no memory with arguments, nor with other results, nor with each other; no list of a result is written over if all others are.
func TestResultsFresh(t *testing.T) {
	r := rand.New(rand.NewSource(7))
	for i, b := range append(smallBuffers("", "a", "b"), randomBuffers(100)...) {
		for _, l := range [][]api.Entry{nil, b.Entries, keyed(9, "b"), randomBatch(r, 4)} {
			a := args{b: b, key: "a", l: l, id: 1 + i}
			var kept, keptToo func() bool
			a.b.Entries, kept = spare(b.Entries)
			a.l, keptToo = spare(l)
			want := wantAll(args{b: b, key: "a", l: l, id: 1 + i})
			got := callAll(a)
			scribble(listsOf(got...)...)
			if !kept() || !keptToo() {
				t.Fatalf("%s: results have the memory of arguments", brief(a))
			}
			for j := range want {
				got := callAll(a)
				other := slices.Delete(slices.Clone(got), j, j+1)
				scribble(listsOf(append(other, callAll(a)...)...)...)
				checkOne(t, a, got[j], want[j])
			}
			got = callAll(a)
			scribble(a.b.Entries, a.l)
			for j := range want {
				checkOne(t, b, got[j], want[j])
			}
		}
	}
}

// P1 (R3): the run and the buffer of Seal are apart, and so are those of two calls.
func TestSealApart(t *testing.T) {
	for _, b := range append(smallBuffers("", "a", "b"), of(16, keyed(1, lettered(16)...)...)) {
		r, c, e := buffer.Seal(b, 1)
		if e != api.OK {
			continue
		}
		scribble(c.Entries)
		if !slices.Equal(r.Entries, b.Entries) {
			t.Errorf("Seal of %s: the buffer has the memory of the run", brief(b))
		}
		scribble(r.Entries)
		c.Entries = append(c.Entries, b.Entries...)
		if !sameBuffer(b, c) {
			t.Errorf("Seal of %s: what is added to the buffer is %s", brief(b), brief(c))
		}
	}
}

// P14.7: buffers are values: what is done with one changes neither it nor those that came from it.
func TestValues(t *testing.T) {
	b := of(16, keyed(1, "b", "d", "f")...)
	all := []api.BfBuffer{b}
	var want []api.BfBuffer
	for at := 0; at < 200; at++ {
		want = append(want, of(16, slices.Clone(all[at].Entries)...))
		for i, k := range []string{"a", "c", "d", "g"} {
			c, _, e := buffer.Write(all[at], keyed(int64(10+at*5+i), k)[0])
			if e != api.OK {
				t.Fatalf("Write: %d", e)
			}
			all = append(all, c)
		}
	}
	for i, w := range want {
		if !sameBuffer(all[i], w) {
			t.Errorf("%d: %s, want %s", i, brief(all[i]), brief(w))
		}
	}
}

// P14.5: after any writes that were done the buffer has of each key that was written, or was there, the entry that was written last, and nothing else.
func TestTheorem(t *testing.T) {
	r := rand.New(rand.NewSource(5))
	for _, b := range append(randomBuffers(200), of(1), of(16)) {
		table := tableOf(b)
		var done, refused int
		for range 40 {
			l := randomBatch(r, 1+r.Intn(3))
			if len(b.Entries) > 0 && len(l) > 0 && r.Intn(2) == 0 {
				l = l[:1]
				l[0].Key = b.Entries[r.Intn(len(b.Entries))].Key
			}
			c, _, e := buffer.Batch(b, l)
			if e == api.ErrFull {
				refused++
				continue
			}
			if e != api.OK {
				t.Fatalf("Batch of %s, %s: %d", brief(b), brief(l), e)
			}
			for _, x := range l {
				table[x.Key] = x
			}
			b = c
			done++
			if want := fromTable(b.Most, table); !sameBuffer(b, want) {
				t.Fatalf("after %d batches: %s, want %s", done, brief(b), brief(want))
			}
			for _, k := range edgeKeys() {
				want, there := table[k]
				x, e := buffer.Get(b, k)
				if x != want || (e == api.OK) != there {
					t.Fatalf("Get of %q: %s, %d, want %s", k, brief(x), e, brief(want))
				}
			}
		}
		if done == 0 || len(b.Entries) == b.Most && b.Most < 9 && refused == 0 {
			t.Errorf("a buffer of %d: %d batches were done, %d were not", b.Most, done, refused)
		}
	}
}

// P14.6: the work of a write is from 1 to Most, and both can be; a write of a key that the buffer has can always be done, and one of another key if the buffer is not full.
func TestWork(t *testing.T) {
	least, greatest := map[int]bool{}, map[int]bool{}
	for most := 1; most <= 16; most++ {
		for n := range most + 1 {
			b := of(most, keyed(1, edgeKeys()[1:n+1]...)...)
			for at, k := range edgeKeys() {
				_, work, e := buffer.Write(b, keyed(40, k)[0])
				there := at >= 1 && at <= n
				if (e == api.OK) != (there || n < most) {
					t.Errorf("Write of %q into %s: %d", k, brief(b), e)
				}
				if e == api.OK && (work < 1 || work > most) {
					t.Errorf("Write of %q into %s: the work is %d", k, brief(b), work)
				}
				least[most] = least[most] || work == 1
				greatest[most] = greatest[most] || work == most
			}
		}
		if !least[most] || !greatest[most] {
			t.Errorf("Most %d: the work is never 1: %v, or never Most: %v", most, !least[most], !greatest[most])
		}
	}
}

// P14.6: a batch is its writes one after the other, if they fit, and so is its work; it is two batches, too.
func TestBatchIsWrites(t *testing.T) {
	r := rand.New(rand.NewSource(6))
	for _, b := range append(randomBuffers(1000), smallBuffers("a", "b")...) {
		l := randomBatch(r, 1+r.Intn(16))
		whole, work, e := buffer.Batch(b, l)
		fit, _ := buffer.Fits(b, l)
		if fit != (e == api.OK) {
			t.Fatalf("%s, %s: Fits %v, Batch %d", brief(b), brief(l), fit, e)
		}
		one, sum, all := b, 0, true
		for _, x := range l {
			c, n, e := buffer.Write(one, x)
			if e != api.OK {
				all = false
				break
			}
			one, sum = c, sum+n
		}
		if all != fit || all && (!sameBuffer(one, whole) || sum != work) {
			t.Fatalf("%s, %s: writes %v, %s, %d, Batch %s, %d", brief(b), brief(l), all, brief(one), sum, brief(whole), work)
		}
		if !fit {
			continue
		}
		cut := r.Intn(len(l) + 1)
		begun, n, _ := buffer.Batch(b, l[:cut])
		ended, m, _ := buffer.Batch(begun, l[cut:])
		if !sameBuffer(ended, whole) || n+m != work {
			t.Fatalf("%s, %s: two batches: %s, %d, Batch %s, %d", brief(b), brief(l), brief(ended), n+m, brief(whole), work)
		}
	}
}

// P14.1, P14.3 and P14.4: what New, Write, Batch and Seal return are buffers and runs, and lists of entries that ascend.
func TestResultsChecked(t *testing.T) {
	r := rand.New(rand.NewSource(2))
	for _, b := range append(randomBuffers(300), smallBuffers("", "a", "b")...) {
		c, _, e := buffer.Batch(b, randomBatch(r, 3))
		if e != api.OK {
			continue
		}
		if n, e := buffer.Check(c); n != 0 || e != api.OK {
			t.Errorf("Batch of %s: Check of %s: %d, %d", brief(b), brief(c), n, e)
		}
		if n, e := entries.CheckList(c.Entries); n != 0 || e != api.OK {
			t.Errorf("Batch of %s: CheckList of %s: %d, %d", brief(b), brief(c), n, e)
		}
		run, d, e := buffer.Seal(c, 1+r.Intn(1e6))
		if len(c.Entries) == 0 {
			continue
		}
		n, f := runs.Check(run)
		m, g := buffer.Check(d)
		if e != api.OK || n != 0 || f != api.OK || m != 0 || g != api.OK {
			t.Errorf("Seal of %s: %s, %s, %d", brief(c), brief(run), brief(d), e)
		}
	}
}

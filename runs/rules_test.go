package runs_test

import (
	"slices"
	"testing"

	"bookend/api"
	"bookend/runs"
)

// A result is what a function returned; what it does not have is zero.
type result struct {
	call string
	n, m int
	is   bool
	x    api.Entry
	k    api.KeRange
	s    string
	r    api.Run
	e    api.Errno
}

// same reports whether two results are equal.
func same(a, b result) bool {
	return a.call == b.call && a.n == b.n && a.m == b.m && a.is == b.is && a.x == b.x && a.k == b.k && a.s == b.s && sameRun(a.r, b.r) && a.e == b.e
}

// An args has what all functions are called with, also what none of them accepts.
type args struct {
	a, b      api.Run
	low, high string
	text      string
}

// resultsOf calls each function.
func resultsOf(a args) []result {
	n, e := runs.Check(a.a)
	out := []result{{call: "Check", n: n, e: e}}
	found, errs := searchAll(a.a, a.low)
	for i, name := range searchNames {
		out = append(out, result{call: name, x: found[i], e: errs[i]})
	}
	for _, x := range []api.KeRange{from(a.low), upTo(a.low, a.high), {Low: a.low, High: a.high}} {
		n, m, e := runs.Part(a.a, x)
		out = append(out, result{call: "Part", n: n, m: m, e: e})
		n, m, e = runs.Count(a.a, x)
		out = append(out, result{call: "Count", n: n, m: m, e: e})
	}
	k, e := runs.Cover(a.a)
	out = append(out, result{call: "Cover", k: k, e: e})
	is, e := runs.Overlap(a.a, a.b)
	out = append(out, result{call: "Overlap", is: is, e: e})
	s, e := runs.Print(a.a)
	out = append(out, result{call: "Print", s: s, e: e})
	r, n, e := runs.Parse(a.text)
	return append(out, result{call: "Parse", n: n, r: r, e: e})
}

// oddTexts returns texts of all kinds.
func oddTexts() []string {
	return []string{
		"", "\n", "run", "run 7", "run 7\n", "run 0\n", "run 07\n", "run 7\ndel \"c\" 5\n", "run 7\ndel \"c\" 5", "run 7\nx\n", "run 7\ndel \"c\" 5\ndel \"c\" 6\n", "run 7\ndel \"c\" 5\ndel \"d\" 0\n", "\x00", "run \"7\"\n", "run 7\n\"", "run 7\n\\\n",
		repeat("\n", 5001), "run 7\n" + repeat("\n", 5001), repeat("x", 1<<20+1), "run " + repeat("9", 1<<19) + "\n", "run 7\n" + repeat("\"", 1<<19) + "\n", "run 7\n" + repeat("\\", 1<<19) + "\n", "run 7\n" + repeat(" ", 1<<19) + "\n", "run 7\ndel \"" + repeat("a", 1<<19) + "\" 7\n",
	}
}

// oddArgs returns arguments of all kinds: runs, and what is none, with keys and texts, and what is neither.
func oddArgs() []args {
	all := append(wrongRuns(), run(1), api.Run{Id: 1, Entries: []api.Entry{}}, api.Run{}, example(), keyed(3, "a"), keyed(4, edgeKeys()...), keyed(1e6, numbered(130)...), keyed(1, numbered(5000)...), sized(1, 1<<20+1), sized(1, 1<<20+100))
	keys := append(wrongKeys(), "", "a", "b", "c", "e", "\x00\x40", repeat("\xff", 32))
	texts := oddTexts()
	var out []args
	for i, a := range all {
		for j, key := range keys {
			out = append(out, args{a, all[(i+j)%len(all)], key, keys[(i+j)%len(keys)], texts[(i+j)%len(texts)]})
		}
	}
	return out
}

// allResults calls each function with all odd arguments.
func allResults() []result {
	var out []result
	for _, a := range oddArgs() {
		out = append(out, resultsOf(a)...)
	}
	return out
}

// P1 (R1, R2, R6) and P8.8: all arguments are accepted, the same ones give the same results again, and with an error every other result is zero, but the integers of Check and Parse, which are 0 without one.
func TestAllArguments(t *testing.T) {
	first, again := allResults(), allResults()
	if !slices.EqualFunc(first, again, same) {
		t.Error("the same arguments give other results")
	}
	failed, passed := map[string]bool{}, map[string]bool{}
	for _, x := range first {
		empty := result{call: x.call, e: x.e}
		line := x.call == "Check" || x.call == "Parse"
		if line && x.e != api.OK {
			empty.n = x.n
		}
		if x.e != api.OK && !same(x, empty) {
			t.Errorf("%s: error %d, but there is another result", x.call, x.e)
		}
		if line && x.e == api.OK && x.n != 0 {
			t.Errorf("%s: OK, but %d", x.call, x.n)
		}
		failed[x.call] = failed[x.call] || x.e != api.OK
		passed[x.call] = passed[x.call] || x.e == api.OK && (x.call == "Check" || !same(x, empty))
	}
	for call, ok := range failed {
		if !ok || !passed[call] {
			t.Errorf("%s had an error: %v, and a value: %v", call, ok, passed[call])
		}
	}
}

// P1 (R4): nil and empty lists are the same.
func TestEmptyLists(t *testing.T) {
	for _, id := range []int{-1, 0, 1, 1e6, 1e6 + 1} {
		for _, other := range []api.Run{run(1), example(), {}} {
			want := resultsOf(args{a: run(id), b: other, low: "a", high: "b"})
			for _, l := range [][]api.Entry{{}, example().Entries[:0], make([]api.Entry, 0, 9)} {
				if got := resultsOf(args{a: run(id, l...), b: other, low: "a", high: "b"}); !slices.EqualFunc(got, want, same) {
					t.Errorf("%d: %s, want %s", id, brief(got), brief(want))
				}
			}
			a, e := runs.Overlap(other, run(id))
			b, we := runs.Overlap(other, api.Run{Id: id, Entries: []api.Entry{}})
			checkOne(t, "Overlap", b, we, a, e, id)
		}
	}
}

// P1 (R3) and P8.8: arguments are not changed, not even behind their length.
func TestArgumentsKept(t *testing.T) {
	more := keyed(1, "y", "x").Entries
	for i, a := range oddArgs() {
		if i%3 > 0 && len(a.a.Entries)+len(a.b.Entries) > 1000 {
			continue
		}
		l, m := append(slices.Clone(a.a.Entries), more...), append(slices.Clone(a.b.Entries), more...)
		b := a
		b.a.Entries, b.b.Entries = l[:len(a.a.Entries)], m[:len(a.b.Entries)]
		resultsOf(b)
		if !slices.Equal(l, append(slices.Clone(a.a.Entries), more...)) || !slices.Equal(m, append(slices.Clone(a.b.Entries), more...)) {
			t.Errorf("%d: an argument was changed", i)
		}
	}
}

// P1 (R3) and P8.8: runs of Parse share no memory with each other.
func TestResultsFresh(t *testing.T) {
	for _, r := range someRuns() {
		text := printed(r)
		first, _, _ := runs.Parse(text)
		second, _, e := runs.Parse(text)
		l := first.Entries[:cap(first.Entries)]
		for i := range l {
			l[i] = api.Entry{Key: "scribbled", Seq: -1}
		}
		if !sameRun(second, r) || e != api.OK {
			t.Errorf("Parse of %.100q: %s, %d", text, brief(second), e)
		}
	}
}

// placeOf returns the index of the entry that was found, or the other number if none was.
func placeOf(r api.Run, x api.Entry, e api.Errno, none int) int {
	if e != api.OK {
		return none
	}
	return slices.Index(r.Entries, x)
}

// P8.6: the strict floor of a key, the entry with this key, if there is one, and the strict ceiling follow each other; the floor is Get of the key, or else its strict floor, and so is the ceiling.
func TestNeighbours(t *testing.T) {
	tried := near(edgeKeys())
	for _, r := range someRuns() {
		if len(r.Entries) > 100 {
			continue
		}
		for _, key := range append(slices.Clip(tried), numbered(100)...) {
			found, errs := searchAll(r, key)
			below, above := placeOf(r, found[2], errs[2], -1), placeOf(r, found[4], errs[4], len(r.Entries))
			next := below + 1
			if errs[0] == api.OK {
				checkOne(t, "the place of Get", placeOf(r, found[0], errs[0], -1), api.OK, next, api.OK, key, r)
				next++
				checkOne(t, "Floor", found[1], errs[1], found[0], api.OK, key, r)
				checkOne(t, "Ceiling", found[3], errs[3], found[0], api.OK, key, r)
			} else {
				checkOne(t, "Floor", found[1], errs[1], found[2], errs[2], key, r)
				checkOne(t, "Ceiling", found[3], errs[3], found[4], errs[4], key, r)
			}
			checkOne(t, "the place of the strict ceiling", above, api.OK, next, api.OK, key, r)
		}
	}
}

// P8.7: Count of a range is Count of its part before a key of it, and of that from this key on; so is Part.
func TestCountParts(t *testing.T) {
	keys := near(edgeKeys())
	d := &dice{3}
	for _, r := range someRuns() {
		if len(r.Entries) > 200 {
			continue
		}
		for range 60 {
			x := upTo(keys[d.roll(len(keys))], keys[d.roll(len(keys))])
			if d.roll(3) == 0 {
				x = from(x.Low)
			}
			at := keys[d.roll(len(keys))]
			if !inRange(x, at) {
				continue
			}
			before, rest := upTo(x.Low, at), x
			rest.Low = at
			live, dead, e := runs.Count(r, x)
			a, b, _ := runs.Count(r, before)
			c, f, _ := runs.Count(r, rest)
			checkTwo(t, "Count", live, dead, e, a+c, b+f, api.OK, x, at, r)
			first, end, e := runs.Part(r, x)
			a, b, _ = runs.Part(r, before)
			c, f, _ = runs.Part(r, rest)
			checkTwo(t, "Part", first, end, e, a, f, api.OK, x, at, r)
			checkOne(t, "Part of what is before a key", b, api.OK, c, api.OK, x, at, r)
			checkOne(t, "all of Count", live+dead, api.OK, end-first, api.OK, x, r)
		}
	}
}

// P8.7: Part of the cover is the whole run; of a range that does not meet the cover it has no entries.
func TestCoverPart(t *testing.T) {
	keys := near(edgeKeys())
	apart := 0
	for _, r := range someRuns() {
		if len(r.Entries) == 0 {
			continue
		}
		cover, e := runs.Cover(r)
		first, end, f := runs.Part(r, cover)
		checkTwo(t, "Part of Cover", first, end, firstErr(e, f), 0, len(r.Entries), api.OK, r)
		for i, low := range keys {
			x := upTo(low, keys[(7*i)%len(keys)])
			if len(r.Entries) > 200 && i%10 > 0 || inRange(x, cover.Low) || inRange(cover, x.Low) && inRange(x, x.Low) {
				continue
			}
			first, end, e := runs.Part(r, x)
			checkOne(t, "how many entries of Part", end-first, e, 0, api.OK, x, r)
			apart++
		}
	}
	if apart == 0 {
		t.Error("no range was apart")
	}
}

// P8.4: two runs overlap exactly if the cover of one of them has the first key of the other one.
func TestOverlapCovers(t *testing.T) {
	all := someRuns()
	for i, a := range all {
		if len(a.Entries) == 0 || len(a.Entries) > 200 {
			continue
		}
		for _, b := range all[i:] {
			if len(b.Entries) == 0 || len(b.Entries) > 200 {
				continue
			}
			x, _ := runs.Cover(a)
			y, _ := runs.Cover(b)
			is, e := runs.Overlap(a, b)
			checkOne(t, "Overlap", is, e, inRange(x, y.Low) || inRange(y, x.Low), api.OK, a, b)
		}
	}
}

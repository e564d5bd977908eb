package runs_test

import (
	"testing"

	"bookend/api"
	"bookend/runs"
)

// example is the run R of the chapter.
func example() api.Run { return run(7, put("a", "1", 1), del("c", 2), put("e", "3", 3)) }

// P8.1 to P8.5: the examples of the chapter.
func TestExamples(t *testing.T) {
	r := example()
	a, c, x := r.Entries[0], r.Entries[1], r.Entries[2]
	var none api.Entry
	checkSearches(t, r, "c", searches{c, c, a, c, x})
	checkSearches(t, r, "b", searches{none, a, a, c, c})
	checkSearches(t, r, "d", searches{none, c, c, x, x})
	checkSearches(t, r, "A", searches{none, none, none, a, a})
	checkSearches(t, r, "f", searches{none, x, x, none, none})
	n, m, e := runs.Part(r, upTo("b", "e"))
	checkTwo(t, "Part", n, m, e, 1, 2, api.OK, r)
	n, m, e = runs.Count(r, upTo("b", "e"))
	checkTwo(t, "Count", n, m, e, 0, 1, api.OK, r)
	n, m, e = runs.Count(r, api.KeRange{})
	checkTwo(t, "Count", n, m, e, 2, 1, api.OK, r)
	cover, e := runs.Cover(r)
	checkOne(t, "Cover", cover, e, upTo("a", "e\x00"), api.OK, r)
	s, e := runs.Print(run(7, del("c", 5)))
	checkOne(t, "Print", s, e, "run 7\ndel \"c\" 5\n", api.OK)
}

// P8.1, Check: what is a run, with ids from 1 to 10^6, and up to 5000 entries, or none.
func TestCheck(t *testing.T) {
	for _, r := range someRuns() {
		n, e := runs.Check(r)
		checkOne(t, "Check", n, e, 0, api.OK, r)
	}
	for _, id := range someIds() {
		for _, r := range []api.Run{{Id: id}, example(), keyed(1, edgeKeys()...), run(1, put(repeat("\xff", 32), repeat("\xff", 64), 1e9)), run(1, del("", 1e9))} {
			r.Id = id
			n, e := runs.Check(r)
			checkOne(t, "Check", n, e, 0, api.OK, r)
		}
	}
}

// P8.1, Check: what is none: the id comes first, then how many entries there are, then the first one that is wrong.
func TestCheckErrors(t *testing.T) {
	seen := map[api.Errno]int{}
	for _, r := range wrongRuns() {
		want, we := runErr(r)
		n, e := runs.Check(r)
		checkOne(t, "Check", n, e, want, we, r)
		seen[e]++
	}
	for _, c := range []struct {
		r  api.Run
		at int
		e  api.Errno
	}{
		{run(0), -1, api.ErrRange}, {run(1000001), -1, api.ErrRange}, {keyed(0, "b", "a"), -1, api.ErrRange}, {run(0, make([]api.Entry, 5001)...), -1, api.ErrRange}, {run(1, make([]api.Entry, 5001)...), -1, api.ErrLong}, {run(1, make([]api.Entry, 5000)...), 0, api.ErrRange},
		{keyed(1, "b", "a"), 1, api.ErrForm}, {keyed(1, "a", "b", "b"), 2, api.ErrForm}, {keyed(1, "a", repeat("k", 33), "b"), 1, api.ErrLong}, {run(1, put("b", "", 1), put("a", "", 0)), 1, api.ErrRange}, {run(1, api.Entry{Key: "k", Val: "v", Dead: true}), 0, api.ErrForm},
	} {
		n, e := runs.Check(c.r)
		checkOne(t, "Check", n, e, c.at, c.e, c.r)
	}
	for _, e := range []api.Errno{api.ErrLong, api.ErrForm, api.ErrRange} {
		if seen[e] == 0 {
			t.Errorf("the error %d was not seen", e)
		}
	}
}

// P8.1 to P8.5: all functions with a run return the error of Check before each other one, and nothing else; with two runs that of the first one that has one.
func TestRunErrorFirst(t *testing.T) {
	for _, r := range wrongRuns() {
		we := errOf(r)
		for _, key := range append(wrongKeys()[:1], "", "a", "zz") {
			checkErrors(t, r, key, we)
		}
		for _, x := range append(wrongRanges(), api.KeRange{}, from("a"), upTo("a", "b"), upTo("b", "a")) {
			checkCounts(t, r, x)
		}
		cover, e := runs.Cover(r)
		checkOne(t, "Cover", cover, e, api.KeRange{}, we, r)
		s, e := runs.Print(r)
		checkOne(t, "Print", s, e, "", we, r)
		for _, other := range append(wrongRuns(), run(1), example()) {
			checkOverlap(t, r, other)
			checkOverlap(t, other, r)
		}
	}
}

// checkCounts checks Part and Count.
func checkCounts(t *testing.T, r api.Run, x api.KeRange) {
	t.Helper()
	wantFrom, wantTo, we := partOf(r, x)
	first, end, e := runs.Part(r, x)
	checkTwo(t, "Part", first, end, e, wantFrom, wantTo, we, x, r)
	wantLive, wantDead, we := countOf(r, x)
	live, dead, e := runs.Count(r, x)
	checkTwo(t, "Count", live, dead, e, wantLive, wantDead, we, x, r)
}

// P8.3, Part and Count: all pairs of keys as bounds, also those whose range has no keys, and ranges without Bound.
func TestPart(t *testing.T) {
	bounds := append(near(edgeKeys()), allOf("a\xff", 2)...)
	for i, r := range someRuns() {
		if len(r.Entries) > 100 {
			continue
		}
		for j, low := range bounds {
			checkCounts(t, r, from(low))
			for k, high := range bounds {
				// Some runs are tried with all pairs, the others with a third of them.
				if i < 40 || (i+j+k)%3 == 0 {
					checkCounts(t, r, upTo(low, high))
				}
			}
		}
	}
}

// P8.3, Part and Count: runs of many lengths, with all of their keys, and what is near to them, as bounds.
func TestPartLengths(t *testing.T) {
	for n := range 70 {
		r := keyed(7, numbered(n)...)
		bounds := near(numbered(n))
		for i, low := range bounds {
			checkCounts(t, r, from(low))
			checkCounts(t, r, upTo("", low))
			checkCounts(t, r, upTo(low, low))
			checkCounts(t, r, upTo(low, bounds[(i+n)%len(bounds)]))
			checkCounts(t, r, upTo(low, bounds[(i+1)%len(bounds)]))
		}
	}
	for _, n := range []int{1000, 4999, 5000} {
		r := keyed(7, numbered(n)...)
		d := &dice{uint32(n)}
		bounds := append(d.some(near(numbered(n)), n/10), near(numbered(n)[n-2:])...)
		for i, low := range bounds {
			checkCounts(t, r, from(low))
			checkCounts(t, r, upTo(low, bounds[d.roll(len(bounds))]))
			checkCounts(t, r, upTo(low, bounds[(i+1)%len(bounds)]))
		}
	}
}

// P8.3: ranges that have no keys begin where their Low is, and what has the key that is no Bound is not in it.
func TestPartCases(t *testing.T) {
	r := example()
	for _, c := range []struct {
		x                       api.KeRange
		first, end, lives, dead int
	}{
		{api.KeRange{}, 0, 3, 2, 1}, {from("c"), 1, 3, 1, 1}, {from("c\x00"), 2, 3, 1, 0}, {from("e"), 2, 3, 1, 0}, {from("z"), 3, 3, 0, 0}, {from("A"), 0, 3, 2, 1},
		{upTo("", ""), 0, 0, 0, 0}, {upTo("a", "a"), 0, 0, 0, 0}, {upTo("c", "c"), 1, 1, 0, 0}, {upTo("e", "a"), 2, 2, 0, 0}, {upTo("e", ""), 2, 2, 0, 0}, {upTo("z", "a"), 3, 3, 0, 0}, {upTo("z", "y"), 3, 3, 0, 0}, {upTo("b", "a\x00"), 1, 1, 0, 0},
		{upTo("", "a"), 0, 0, 0, 0}, {upTo("", "a\x00"), 0, 1, 1, 0}, {upTo("a", "c"), 0, 1, 1, 0}, {upTo("a", "c\x00"), 0, 2, 1, 1}, {upTo("c", "c\x00"), 1, 2, 0, 1}, {upTo("c", "e"), 1, 2, 0, 1}, {upTo("b", "z"), 1, 3, 1, 1}, {upTo("", repeat("\xff", 32)), 0, 3, 2, 1},
	} {
		first, end, e := runs.Part(r, c.x)
		checkTwo(t, "Part", first, end, e, c.first, c.end, api.OK, c.x)
		live, dead, e := runs.Count(r, c.x)
		checkTwo(t, "Count", live, dead, e, c.lives, c.dead, api.OK, c.x)
	}
}

// P8.3: what is no range.
func TestPartErrors(t *testing.T) {
	for _, r := range someRuns() {
		for _, x := range wrongRanges() {
			n, m, e := runs.Part(r, x)
			checkTwo(t, "Part", n, m, e, 0, 0, rangeErr(x), x, r)
			n, m, e = runs.Count(r, x)
			checkTwo(t, "Count", n, m, e, 0, 0, rangeErr(x), x, r)
		}
	}
}

// P8.4, Cover: runs of all kinds, also with the greatest keys as their last ones.
func TestCover(t *testing.T) {
	last := repeat("\xff", 32)
	for _, r := range append(someRuns(), keyed(1, last), keyed(1, "a", last), keyed(1, repeat("a", 32)), keyed(1, repeat("a", 31)), keyed(1, repeat("a", 31)+"\xff"), keyed(1, "a"+repeat("\xff", 31)), keyed(1, repeat("\xff", 31))) {
		want, we := coverOf(r)
		x, e := runs.Cover(r)
		checkOne(t, "Cover", x, e, want, we, r)
	}
	for _, c := range []struct {
		r    api.Run
		want api.KeRange
		e    api.Errno
	}{
		{keyed(1, ""), upTo("", "\x00"), api.OK}, {keyed(1, "", "b"), upTo("", "b\x00"), api.OK}, {keyed(1, "a", last), from("a"), api.OK}, {keyed(1, last), from(last), api.OK}, {keyed(1, repeat("\xff", 31)+"\xfe"), upTo(repeat("\xff", 31)+"\xfe", last), api.OK},
		{keyed(1, "b", repeat("c", 32)), upTo("b", repeat("c", 31)+"d"), api.OK}, {run(1), api.KeRange{}, api.ErrNone}, {run(0), api.KeRange{}, api.ErrRange},
	} {
		x, e := runs.Cover(c.r)
		checkOne(t, "Cover", x, e, c.want, c.e, c.r)
	}
}

// checkOverlap checks Overlap.
func checkOverlap(t *testing.T, a, b api.Run) {
	t.Helper()
	want, we := overlapOf(a, b)
	is, e := runs.Overlap(a, b)
	checkOne(t, "Overlap", is, e, want, we, a, b)
}

// P8.4, Overlap: all pairs of runs with a first and a last key of some, and with none; their covers may meet where neither run has an entry.
func TestOverlap(t *testing.T) {
	keys := append(edgeKeys(), "b", "b\x00", repeat("a", 32))
	keys = sorted(keys)
	all := []api.Run{run(1), {Id: 2, Entries: []api.Entry{}}}
	for i, low := range keys {
		all = append(all, keyed(7, low))
		for _, high := range keys[i+1:] {
			all = append(all, keyed(8, low, high))
		}
	}
	for i, a := range all {
		for j, b := range all {
			if i < 30 || (i+j)%5 == 0 || len(a.Entries) != len(b.Entries) {
				checkOverlap(t, a, b)
			}
		}
	}
}

// P8.4, Overlap: runs next to each other, one within a gap of the other, and the same run twice.
func TestOverlapCases(t *testing.T) {
	end := repeat("\xff", 32)
	for _, c := range []struct {
		a, b api.Run
		want bool
	}{
		{keyed(1, "a", "c"), keyed(2, "b"), true}, {keyed(1, "a", "c"), keyed(2, "c"), true}, {keyed(1, "a", "c"), keyed(2, "c\x00"), false}, {keyed(1, "a", "c"), keyed(2, "d", "e"), false}, {keyed(1, "b", "c"), keyed(1, "", "b"), true}, {keyed(1, "b", "c"), keyed(1, "", "a"+end[:31]), false},
		{keyed(1, end), keyed(1, "a", end), true}, {keyed(1, end), keyed(1, end[:31]+"\xfe"), false}, {keyed(1, end[:31]), keyed(1, end), false}, {keyed(1, "a", "c"), run(1), false}, {run(1), run(1), false}, {example(), example(), true}, {keyed(1, ""), keyed(1, ""), true}, {keyed(1, ""), keyed(1, "\x00"), false},
		{keyed(1, repeat("c", 32)), keyed(1, repeat("c", 31)+"d"), false}, {keyed(1, numbered(5000)...), keyed(1, numbered(5000)[4999:]...), true}, {keyed(1, numbered(4999)...), keyed(1, numbered(5000)[4999:]...), false},
	} {
		is, e := runs.Overlap(c.a, c.b)
		checkOne(t, "Overlap", is, e, c.want, api.OK, c.a, c.b)
		is, e = runs.Overlap(c.b, c.a)
		checkOne(t, "Overlap", is, e, c.want, api.OK, c.b, c.a)
	}
	for _, c := range []struct {
		a, b api.Run
		e    api.Errno
	}{
		{keyed(1, "b", "a"), api.Run{}, api.ErrForm}, {api.Run{}, keyed(1, "b", "a"), api.ErrRange}, {run(1), keyed(1, "b", "a"), api.ErrForm}, {keyed(1, "b", "a"), run(1), api.ErrForm}, {example(), run(1, make([]api.Entry, 5001)...), api.ErrLong},
	} {
		is, e := runs.Overlap(c.a, c.b)
		checkOne(t, "Overlap", is, e, false, c.e, c.a, c.b)
	}
}

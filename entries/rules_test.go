package entries_test

import (
	"slices"
	"testing"

	"bookend/api"
	"bookend/entries"
)

// A result is what a function returned; what it does not have is zero.
type result struct {
	call string
	n    int
	x    api.Entry
	l    []api.Entry
	s    string
	e    api.Errno
}

// same reports whether two results are equal.
func same(a, b result) bool {
	return a.call == b.call && a.n == b.n && a.x == b.x && a.s == b.s && a.e == b.e && slices.Equal(a.l, b.l)
}

// resultsOfLists calls each function of lists with two lists, which may be none, and a string.
func resultsOfLists(a, b []api.Entry, s string) []result {
	n, e := entries.CheckList(a)
	out := []result{{call: "CheckList", n: n, e: e}}
	l, e := entries.Sort(a)
	out = append(out, result{call: "Sort", l: l, e: e})
	l, e = entries.Newest(a)
	out = append(out, result{call: "Newest", l: l, e: e})
	l, e = entries.Over(a, b)
	out = append(out, result{call: "Over", l: l, e: e})
	l, e = entries.Live(a)
	out = append(out, result{call: "Live", l: l, e: e})
	n, e = entries.Find(a, s)
	out = append(out, result{call: "Find", n: n, e: e})
	text, e := entries.Print(a)
	out = append(out, result{call: "Print", s: text, e: e})
	l, n, e = entries.Parse(s)
	return append(out, result{call: "Parse", n: n, l: l, e: e})
}

// resultsOfPairs calls each function of entries with two of them, which may be none.
func resultsOfPairs(a, b api.Entry) []result {
	n, e := entries.Compare(a, b)
	x, f := entries.Wins(a, b)
	return []result{{call: "Check", e: entries.Check(a)}, {call: "Compare", n: n, e: e}, {call: "Wins", x: x, e: f}}
}

// oddLists returns lists of all kinds: ascending ones, others, too long ones, and some of what is no entry.
func oddLists() [][]api.Entry {
	d := &dice{3}
	l := [][]api.Entry{
		nil, {}, fewEntries(), wrongEntries(), d.mixed(50), d.rising([]string{"", "a", "b", "c"}, 5), list(put("a", "1", 5)), list(del("a", 7), put("b", "2", 6)), list(put("b", "2", 6), put("a", "1", 5)),
		numbered("", 5000), numbered("", 5001), numbered("x", 2501), numbered("y", 2501), make([]api.Entry, 5001), widest(5000), list(put(repeat("k", 1<<20), repeat("v", 1<<20), 1)), append(numbered("", 100), api.Entry{}),
	}
	for _, x := range append(fewEntries(), wrongEntries()...) {
		l = append(l, list(x))
	}
	return l
}

// oddStrings returns strings of all kinds: keys, texts, and what is neither.
func oddStrings() []string {
	return []string{
		"", "a", "\x00", "\n", "\"", "\\", repeat("\xff", 32), repeat("\xff", 33), "del \"a\" 7\n", "del \"a\" 7", "put \"b\" \"2\" 6\nx\n", "put \"b\" \"2\" 0\n", "put \"\" \"\" 1\ndel \"\" 1\n",
		repeat("\n", 5001), repeat("x", 1<<20+1), repeat("\"", 1<<20), repeat("\\", 1<<20) + "\n", repeat(" ", 1<<19) + "\n", repeat("\" ", 1<<19) + "\n", repeat("del \"a\" 7\n", 5000), "del \"a\" " + repeat("9", 1<<19) + "\n",
	}
}

// allResults calls each function with all odd arguments.
func allResults() []result {
	var out []result
	lists, strs := oddLists(), oddStrings()
	for i, a := range lists {
		out = append(out, resultsOfLists(a, lists[len(lists)-1-i], strs[i%len(strs)])...)
		out = append(out, resultsOfLists(a, list(put("b", "", 1)), "a")...)
	}
	l := append(fewEntries(), wrongEntries()...)
	for _, a := range l {
		for _, b := range l {
			out = append(out, resultsOfPairs(a, b)...)
		}
	}
	return out
}

// P1 (R1, R2, R6) and P3.8: all arguments are accepted, the same ones give the same results again, and with an error every other result is zero, but the integers of CheckList and Parse.
func TestAllArguments(t *testing.T) {
	first, again := allResults(), allResults()
	if !slices.EqualFunc(first, again, same) {
		t.Error("the same arguments give other results")
	}
	failed := map[string]bool{}
	for _, x := range first {
		empty := result{call: x.call, e: x.e}
		if x.call == "CheckList" || x.call == "Parse" {
			empty.n = x.n
		}
		if x.e != api.OK && !same(x, empty) {
			t.Errorf("%s: error %d, but there is another result", x.call, x.e)
		}
		if x.e == api.OK && empty.n != 0 {
			t.Errorf("%s: OK, but %d", x.call, x.n)
		}
		failed[x.call] = failed[x.call] || x.e != api.OK
	}
	for call, ok := range failed {
		if !ok {
			t.Errorf("%s had no error", call)
		}
	}
}

// P1 (R4): nil and empty lists are the same.
func TestEmptyLists(t *testing.T) {
	some := list(put("a", "1", 5))
	for _, pair := range [][2][]api.Entry{{nil, some}, {some, nil}, {nil, nil}} {
		empty := pair
		for i := range empty {
			if empty[i] == nil {
				empty[i] = list()[:0:0]
			}
		}
		a, b := resultsOfLists(pair[0], pair[1], ""), resultsOfLists(empty[0], empty[1], "")
		if !slices.EqualFunc(a, b, same) {
			t.Errorf("%v and %v", a, b)
		}
	}
}

// P1 (R3) and P3.8: arguments are not changed, not even behind their length.
func TestArgumentsKept(t *testing.T) {
	behind := list(put("", "y", 3), del("z", 4))
	for i, a := range oddLists() {
		for _, b := range [][]api.Entry{nil, list(put("a", "3", 2), put("c", "", 4)), a} {
			x, y := append(slices.Clone(a), behind...), append(slices.Clone(b), behind...)
			resultsOfLists(x[:len(a)], y[:len(b)], "a")
			resultsOfLists(y[:len(b)], x[:len(a)], "b")
			if !slices.Equal(x, append(slices.Clone(a), behind...)) || !slices.Equal(y, append(slices.Clone(b), behind...)) {
				t.Errorf("list %d was changed", i)
			}
		}
	}
}

// spoil overwrites a list, and what may lie behind its length.
func spoil(l []api.Entry) {
	l = l[:cap(l)]
	for i := range l {
		l[i] = put("spoilt", "", 99)
	}
}

// P1 (R3) and P3.8: results are new memory: who overwrites one changes neither an argument nor another result, and who overwrites an argument changes no result.
func TestResultsFresh(t *testing.T) {
	lists := [][]api.Entry{nil, {}, list(put("a", "1", 5)), list(put("a", "1", 5), put("b", "2", 6)), list(del("a", 7), put("b", "2", 6)), numbered("", 100)}
	for _, a := range lists {
		for _, b := range lists {
			x, y := slices.Clone(a), slices.Clone(b)
			want := resultsOfLists(a, b, "del \"a\" 7\n")
			kept := resultsOfLists(x, y, "del \"a\" 7\n")
			for _, r := range resultsOfLists(x, y, "del \"a\" 7\n") {
				spoil(r.l)
			}
			if !slices.Equal(x, a) || !slices.Equal(y, b) {
				t.Errorf("an argument follows a result: %s, %s", brief(x...), brief(y...))
			}
			spoil(x)
			spoil(y)
			for i := range kept {
				if !same(kept[i], want[i]) {
					t.Errorf("%s of %s, %s follows an argument, or another result: %s", kept[i].call, brief(a...), brief(b...), brief(kept[i].l...))
				}
				spoil(kept[i].l)
			}
		}
	}
}

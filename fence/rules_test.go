package fence_test

import (
	"slices"
	"testing"

	"bookend/api"
	"bookend/fence"
)

// A result is what a function returned; what it does not have is zero.
type result struct {
	call string
	n, m int
	is   bool
	f    api.FeFence
	e    api.Errno
}

// same reports whether two results are equal.
func same(a, b result) bool {
	return a.call == b.call && a.n == b.n && a.m == b.m && a.is == b.is && sameFence(a.f, b.f) && a.e == b.e
}

// An args has what all functions are called with, also what none of them accepts.
type args struct {
	f    api.FeFence
	l    []api.Entry
	n    int
	keys [2]string
}

// resultsOf calls each function.
func resultsOf(a args) []result {
	f, e := fence.Make(a.l, a.n)
	out := []result{{call: "Make", f: f, e: e}}
	n, e := fence.Check(a.f)
	out = append(out, result{call: "Check", n: n, e: e})
	is, e := fence.Fits(a.f, a.l)
	out = append(out, result{call: "Fits", is: is, e: e})
	n, e = fence.Block(a.f, a.keys[0])
	out = append(out, result{call: "Block", n: n, e: e})
	for _, r := range []api.KeRange{from(a.keys[0]), upTo(a.keys[0], a.keys[1]), {Low: a.keys[0], High: a.keys[1]}} {
		n, m, e := fence.Blocks(a.f, r)
		out = append(out, result{call: "Blocks", n: n, m: m, e: e})
	}
	n, m, e := fence.Span(a.f, a.n, a.keys[0])
	out = append(out, result{call: "Span", n: n, m: m, e: e})
	n, e = fence.Find(a.f, a.l, a.keys[0])
	out = append(out, result{call: "Find", n: n, e: e})
	n, e = fence.Size(a.f)
	return append(out, result{call: "Size", n: n, e: e})
}

// oddArgs returns arguments of all kinds: lists and fences that fit each other or not, and what is neither.
func oddArgs() []args {
	lists := append(wrongLists(), nil, list(), list("a"), list("aa", "ab", "b", "bcd", "bce"), list(edgeKeys()...), list(numbered(130)...), list(numbered(5000)...))
	fences := append(wrongFences(), of(1), of(64), of(2, "b", "bce"), of(2, "abb", "bce"), of(64, "\x00\x40", "\x00\x80"), of(1, numbered(5000)[1:]...), api.FeFence{})
	numbers := append(wrongSteps(), 1, 2, 5, 64, 130)
	strs := append(wrongKeys(), "", "a", "b", "bcd", repeat("\xff", 32))
	var all []args
	for i, f := range fences {
		for j, l := range lists {
			at := i + j
			all = append(all, args{f, l, numbers[at%len(numbers)], [2]string{strs[at%len(strs)], strs[at/2%len(strs)]}}, args{f, l, 2, [2]string{"b", "c"}})
		}
	}
	return all
}

// allResults calls each function with all odd arguments.
func allResults() []result {
	var out []result
	for _, a := range oddArgs() {
		out = append(out, resultsOf(a)...)
	}
	return out
}

// P1 (R1, R2, R6) and P7.6: all arguments are accepted, the same ones give the same results again, and with an error every other result is zero, but the integer of Check.
func TestAllArguments(t *testing.T) {
	first, again := allResults(), allResults()
	if !slices.EqualFunc(first, again, same) {
		t.Error("the same arguments give other results")
	}
	errors, values := map[string]bool{}, map[string]bool{}
	for _, x := range first {
		empty := result{call: x.call, e: x.e}
		values[x.call] = values[x.call] || !same(x, empty)
		if x.call == "Check" {
			empty.n = x.n
		}
		if x.e != api.OK && !same(x, empty) {
			t.Errorf("%s: error %d, but there is another result", x.call, x.e)
		}
		errors[x.call] = errors[x.call] || x.e != api.OK
	}
	for call, ok := range errors {
		if !ok || !values[call] {
			t.Errorf("%s had an error: %v, and a value: %v", call, ok, values[call])
		}
	}
}

// P1 (R4): nil and empty lists are the same, also the marks of a fence.
func TestEmptyLists(t *testing.T) {
	for _, step := range []int{0, 1, 64, 65} {
		for _, n := range []int{-1, 0, 1, 2} {
			words := [2]string{"a", "b"}
			want := resultsOf(args{api.FeFence{Step: step}, nil, n, words})
			for _, a := range []args{
				{api.FeFence{Step: step, Marks: []string{}}, nil, n, words}, {api.FeFence{Step: step}, []api.Entry{}, n, words}, {api.FeFence{Step: step, Marks: []string{"x"}[:0]}, list("a")[:0], n, words},
			} {
				if got := resultsOf(a); !slices.EqualFunc(got, want, same) {
					t.Errorf("%s: %v, want %v", brief(a), got, want)
				}
			}
		}
	}
}

// P1 (R3) and P7.6: arguments are not changed, not even behind their length.
func TestArgumentsKept(t *testing.T) {
	moreEntries, moreMarks := list("y", "x"), []string{"y", "x"}
	for i, a := range oddArgs() {
		if i%3 > 0 && len(a.l) > 1000 {
			continue
		}
		l, marks := append(slices.Clone(a.l), moreEntries...), append(slices.Clone(a.f.Marks), moreMarks...)
		b := a
		b.l, b.f.Marks = l[:len(a.l)], marks[:len(a.f.Marks)]
		resultsOf(b)
		if !slices.Equal(l, append(slices.Clone(a.l), moreEntries...)) || !slices.Equal(marks, append(slices.Clone(a.f.Marks), moreMarks...)) {
			t.Errorf("%d: an argument was changed", i)
		}
	}
}

// P1 (R3) and P7.6: fences of Make share no memory with each other, or with the list.
func TestResultsFresh(t *testing.T) {
	for _, l := range someLists() {
		for _, step := range []int{1, 2, 64} {
			arg := slices.Clone(l)
			want := fenceOf(l, step)
			first, _ := fence.Make(arg, step)
			second, e := fence.Make(arg, step)
			marks := first.Marks[:cap(first.Marks)]
			for i := range marks {
				marks[i] = "scribbled"
			}
			clear(arg)
			checkFence(t, second, e, want, api.OK, l, step)
		}
	}
}

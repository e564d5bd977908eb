package ops_test

import (
	"math"
	"slices"
	"testing"

	"bookend/api"
	"bookend/ops"
)

// A result is what a function returned; what it does not have is zero.
type result struct {
	call string
	n    int
	yes  bool
	s    string
	c    api.OpCall
	l    []api.OpCall
	a    api.OpAnswer
	e    api.Errno
}

// sameResult reports whether two results are equal.
func sameResult(x, y result) bool {
	return x.call == y.call && x.n == y.n && x.yes == y.yes && x.s == y.s && x.e == y.e && same(x.c, y.c) && sameList(x.l, y.l) && same(x.a, y.a)
}

// resultsOf calls each function with a kind, a string, operations (of which the first one is taken alone, if there is any) and an answer.
func resultsOf(kind int, s string, l []api.OpCall, a api.OpAnswer) []result {
	var c api.OpCall
	if len(l) > 0 {
		c = l[0]
	}
	name, e := ops.Name(kind)
	out := []result{{call: "Name", s: name, e: e}}
	n, e := ops.Kind(s)
	out = append(out, result{call: "Kind", n: n, e: e}, result{call: "Check", e: ops.Check(c)}, result{call: "Write", yes: ops.Write(c)})
	line, e := ops.Print(c)
	out = append(out, result{call: "Print", s: line, e: e})
	parsed, e := ops.Parse(s)
	out = append(out, result{call: "Parse", c: parsed, e: e})
	text, n, e := ops.Text(l)
	out = append(out, result{call: "Text", s: text, n: n, e: e})
	calls, n, e := ops.Script(s)
	out = append(out, result{call: "Script", l: calls, n: n, e: e})
	n, e = ops.CheckAnswer(kind, a)
	out = append(out, result{call: "CheckAnswer", n: n, e: e})
	text, e = ops.PrintAnswer(kind, a)
	out = append(out, result{call: "PrintAnswer", s: text, e: e})
	answer, n, e := ops.ParseAnswer(kind, s)
	return append(out, result{call: "ParseAnswer", a: answer, n: n, e: e})
}

// oddStrings returns strings of all kinds: words, lines, texts, and what is none of these.
func oddStrings() []string {
	batch := "batch 0 put \"a\" \"x\" del \"b\""
	return []string{
		"", "put", "puts", "\x00", "\n", "\"", "\\", "put 5 \"a\" \"x\"", "put 5 \"a\"", batch, "batch 0", "pin 1000001", "pin 0\n", "pin 0\nbatch 0\n", batch + "\n" + batch + "\npin 0\n", emptyHead, emptyHead + someItem, emptyHead + someItem + "item 4 \"\" \"\" \"\"\n", emptyHead + emptyStats, emptyHead + emptyStats + "x\n", "answer 1000 0 0 0 \"\" \"\"\n",
		repeat("\n", 5000), repeat("\n", 5001), repeat("x", 1<<20+1), repeat("\"", 1<<20), repeat("\\", 1<<20-1) + "\n", repeat(" ", 8192), repeat("\" ", 4096), repeat("pin 0\n", 201), repeat("a ", 64) + "a", emptyHead + repeat(someItem, 3000), "batch 0" + repeat(" del \"a\"", 31), "pin " + repeat("9", 2000), "answer" + repeat(" 0", 60), "stats" + repeat(" 0", 17),
	}
}

// oddScripts returns operations of all kinds, and what is none, alone and in lists.
func oddScripts() [][]api.OpCall {
	d := &dice{31}
	l := [][]api.OpCall{nil, {}, d.calls(3), d.calls(20), wrongCalls(), append(d.calls(2), api.OpCall{}), make([]api.OpCall, 200), make([]api.OpCall, 201), slices.Repeat([]api.OpCall{widest()}, 200), filled(1 << 20)}
	huge := repeat("\x00", 1<<20)
	for _, c := range append(append(d.calls(1), wrongCalls()...), api.OpCall{Kind: 1, Key: huge, Val: huge}, api.OpCall{Kind: 3, Writes: make([]api.OpWrite, 1<<16)}, api.OpCall{Kind: math.MinInt, Grant: math.MinInt}, api.OpCall{Kind: math.MaxInt}, api.OpCall{Kind: 9, Handle: api.Handle{Index: math.MinInt, Gen: math.MaxInt}}) {
		l = append(l, []api.OpCall{c})
	}
	return l
}

// oddAnswers returns answers of all kinds, and what is none.
func oddAnswers() []api.OpAnswer {
	d := &dice{33}
	huge := repeat("\x00", 1<<20)
	l := []api.OpAnswer{{}, {E: -1}, {E: 1000}, {E: math.MinInt}, {N: math.MaxInt}, {Key: huge}, {Val: huge}, {Items: make([]api.DfItem, 1<<16)}, {Items: []api.DfItem{{Kind: math.MinInt}}}, {Items: []api.DfItem{{Kind: 3, Key: huge, Old: huge, New: huge}}}, {Items: []api.DfItem{{Kind: 1, New: "x"}, {}}}, {Stats: api.StStats{Live: math.MinInt, Lost: math.MaxInt64}}, {Handle: api.Handle{Index: -1}}, {E: 4, Val: "x"}, {Items: slices.Repeat([]api.DfItem{{Kind: 3, Key: repeat("\x00", 100), Old: repeat("\x00", 100), New: repeat("\x00", 100)}}, 2000)}}
	for kind := 1; kind <= 17; kind++ {
		l = append(l, d.answer(kind), d.answer(kind))
	}
	return l
}

// allResults calls each function with all odd arguments.
func allResults() []result {
	var out []result
	kinds := []int{0, 1, 3, 4, 7, 8, 11, 14, 17, 18, -1, math.MinInt, math.MaxInt}
	strs, scripts, answers := oddStrings(), oddScripts(), oddAnswers()
	for _, kind := range kinds {
		for i := range max(len(strs), len(scripts), len(answers)) {
			out = append(out, resultsOf(kind, strs[i%len(strs)], scripts[i%len(scripts)], answers[i%len(answers)])...)
		}
	}
	return out
}

// P1 (R1, R2, R6) and P4.7: all arguments are accepted, the same ones give the same results again, and with an error every other result is zero, but the integers of Text, Script, CheckAnswer and ParseAnswer.
func TestAllArguments(t *testing.T) {
	first, again := allResults(), allResults()
	if !slices.EqualFunc(first, again, sameResult) {
		t.Error("the same arguments give other results")
	}
	errs, oks := map[string]int{}, map[string]int{}
	for _, x := range first {
		places := x.call == "Text" || x.call == "Script" || x.call == "CheckAnswer" || x.call == "ParseAnswer"
		if x.e == api.OK {
			oks[x.call]++
			if places && x.n != 0 {
				t.Errorf("%s: OK, but %d", x.call, x.n)
			}
			continue
		}
		errs[x.call]++
		empty := result{call: x.call, e: x.e}
		if places {
			empty.n = x.n
		}
		if !sameResult(x, empty) {
			t.Errorf("%s: error %d, but there is another result", x.call, x.e)
		}
	}
	for call, n := range oks {
		if n == 0 || errs[call] == 0 && call != "Write" {
			t.Errorf("%s was OK %d times, and had %d errors", call, n, errs[call])
		}
	}
	if len(oks) != 11 {
		t.Errorf("only %d functions were OK", len(oks))
	}
}

// P1 (R4): nil and empty lists are the same, also inside structs.
func TestEmptyLists(t *testing.T) {
	for kind := range 19 {
		a, b := api.OpCall{Kind: kind}, api.OpCall{Kind: kind, Writes: []api.OpWrite{}}
		x, y := api.OpAnswer{}, api.OpAnswer{Items: []api.DfItem{}}
		if !slices.EqualFunc(resultsOf(kind, "", []api.OpCall{a}, x), resultsOf(kind, "", []api.OpCall{b}, y), sameResult) {
			t.Errorf("kind %d: other results with an empty list", kind)
		}
	}
	if !slices.EqualFunc(resultsOf(1, "", nil, api.OpAnswer{}), resultsOf(1, "", []api.OpCall{}, api.OpAnswer{}), sameResult) {
		t.Error("other results with an empty script")
	}
}

// P1 (R3) and P4.7: arguments are not changed, not even behind their length.
func TestArgumentsKept(t *testing.T) {
	d := &dice{35}
	for range 300 {
		l := append(d.calls(1), api.OpCall{Kind: 2, Key: "behind"})
		batch, items := append(d.call(3).Writes, api.OpWrite{Key: "behind"}), []api.DfItem{d.item(), d.item(), {Key: "behind"}}
		l[2].Writes = batch[:len(batch)-1]
		script, writes, kept := slices.Clone(l), slices.Clone(batch), slices.Clone(items)
		resultsOf(14, "", l[:len(l)-1], api.OpAnswer{Items: items[:2]})
		resultsOf(3, "", l[2:3], api.OpAnswer{Items: items[:2]})
		if !sameList(l, script) || !slices.Equal(batch, writes) || !slices.Equal(items, kept) {
			t.Errorf("an argument was changed: %s, %s, %s", brief(l), brief(batch), brief(items))
		}
	}
}

// spoil overwrites the lists of results, and what may lie behind their lengths.
func spoil(l []result) {
	for _, x := range l {
		for _, c := range append(x.l[:cap(x.l)], x.c) {
			w := c.Writes[:cap(c.Writes)]
			for i := range w {
				w[i] = api.OpWrite{Key: "spoilt"}
			}
		}
		for i := range x.l[:cap(x.l)] {
			x.l[:cap(x.l)][i] = api.OpCall{Kind: 99}
		}
		items := x.a.Items[:cap(x.a.Items)]
		for i := range items {
			items[i] = api.DfItem{Kind: 99}
		}
	}
}

// P1 (R3) and P4.7: results are new memory: who overwrites one changes no other one, not even one of the same call.
func TestResultsFresh(t *testing.T) {
	strs := oddStrings()
	for kind := range 19 {
		for _, s := range strs {
			kept, spoilt := resultsOf(kind, s, nil, api.OpAnswer{}), resultsOf(kind, s, nil, api.OpAnswer{})
			spoil(spoilt)
			if !slices.EqualFunc(kept, resultsOf(kind, s, nil, api.OpAnswer{}), sameResult) {
				t.Errorf("a result of %d, %s follows another one", kind, brief(s))
			}
		}
	}
	l, _, _ := ops.Script("batch 0 del \"a\" del \"b\"\nbatch 0 del \"c\" del \"d\"\n")
	if len(l) != 2 {
		t.Fatalf("%d operations", len(l))
	}
	_ = append(l[0].Writes, api.OpWrite{Key: "more"})
	l[0].Writes[1].Key = "spoilt"
	if !slices.Equal(l[1].Writes, []api.OpWrite{{Key: "c", Dead: true}, {Key: "d", Dead: true}}) {
		t.Errorf("writes of two operations share memory: %s", brief(l))
	}
}

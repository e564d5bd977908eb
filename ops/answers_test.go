package ops_test

import (
	"fmt"
	"math"
	"reflect"
	"regexp"
	"slices"
	"strings"
	"testing"

	"bookend/api"
	"bookend/ops"
	"bookend/words"
)

var (
	headForm  = regexp.MustCompile(`\Aanswer` + repeat(num, 4) + repeat(str, 2) + `\z`)
	itemForm  = regexp.MustCompile(`\Aitem` + num + repeat(str, 3) + `\z`)
	statsForm = regexp.MustCompile(`\Astats` + repeat(num, 17) + `\z`)
)

// numbersOf returns the numbers of statistics.
func numbersOf(s api.StStats) []int64 {
	var l []int64
	v := reflect.ValueOf(s)
	for i := range v.NumField() {
		l = append(l, v.Field(i).Int())
	}
	return l
}

// itemErr is what CheckAnswer must find in an item.
func itemErr(x api.DfItem) api.Errno {
	switch {
	case x.Kind < 1 || x.Kind > 3:
		return api.ErrArg
	case x.Kind == 1 && x.Old != "", x.Kind == 2 && x.New != "":
		return api.ErrForm
	case anyLong(x.Key, x.Old, x.New):
		return api.ErrLong
	}
	return api.OK
}

// answerErr is what CheckAnswer must return.
func answerErr(kind int, a api.OpAnswer) (int, api.Errno) {
	if kind < 1 || kind > 17 {
		return -1, api.ErrArg
	}
	has := "E"
	if a.E == 0 {
		has += " " + partsOfAnswer[kind]
	}
	switch {
	case a.E < 0 || a.E >= 1000:
		return -1, api.ErrRange
	case !onlyHas(a, has):
		return -1, api.ErrForm
	case anyOver(int64(a.N), int64(a.Handle.Index), int64(a.Handle.Gen)) || anyOver(numbersOf(a.Stats)...):
		return -1, api.ErrRange
	case anyLong(a.Key, a.Val) || len(a.Items) > 2000:
		return -1, api.ErrLong
	}
	for i, x := range a.Items {
		if e := itemErr(x); e != api.OK {
			return i, e
		}
	}
	return 0, api.OK
}

// answerText is the text of an answer.
func answerText(kind int, a api.OpAnswer) string {
	var s strings.Builder
	fmt.Fprintf(&s, "answer %d %d %d %d %s %s\n", a.E, a.N, a.Handle.Index, a.Handle.Gen, words.Quote(a.Key), words.Quote(a.Val))
	for _, x := range a.Items {
		fmt.Fprintf(&s, "item %d %s %s %s\n", x.Kind, words.Quote(x.Key), words.Quote(x.Old), words.Quote(x.New))
	}
	if kind == 17 && a.E == 0 {
		s.WriteString("stats " + strings.Trim(fmt.Sprint(numbersOf(a.Stats)), "[]") + "\n")
	}
	return s.String()
}

// match returns what the form finds in a line, or nil.
func match(form *regexp.Regexp, line string) []string {
	if _, e := words.Split(line); e != api.OK {
		return nil
	}
	return form.FindStringSubmatch(line)
}

// parsedAnswer is what ParseAnswer must return.
func parsedAnswer(kind int, text string) (api.OpAnswer, int, api.Errno) {
	var none, a api.OpAnswer
	if kind < 1 || kind > 17 {
		return none, 0, api.ErrArg
	}
	lines, e := words.Lines(text)
	if e != api.OK {
		return none, 0, e
	}
	if len(lines) == 0 {
		return none, 1, api.ErrForm
	}
	m := match(headForm, lines[0])
	if m == nil {
		return none, 1, api.ErrForm
	}
	a = api.OpAnswer{E: api.Errno(whole(m[1])), N: whole(m[2]), Handle: api.Handle{Index: whole(m[3]), Gen: whole(m[4])}, Key: unquoted(m[5]), Val: unquoted(m[6])}
	stats := kind == 17 && a.E == 0
	if stats && len(lines) == 1 {
		return none, 2, api.ErrForm
	}
	for i, s := range lines[1:] {
		if stats && i == len(lines)-2 {
			m := match(statsForm, s)
			if m == nil {
				return none, len(lines), api.ErrForm
			}
			v := reflect.ValueOf(&a.Stats).Elem()
			for k := range v.NumField() {
				v.Field(k).SetInt(int64(whole(m[k+1])))
			}
			continue
		}
		m := match(itemForm, s)
		if m == nil {
			return none, i + 2, api.ErrForm
		}
		a.Items = append(a.Items, api.DfItem{Kind: whole(m[1]), Key: unquoted(m[2]), Old: unquoted(m[3]), New: unquoted(m[4])})
	}
	if _, e := answerErr(kind, a); e != api.OK {
		return none, 0, e
	}
	return a, 0, api.OK
}

// checkAnswer checks CheckAnswer and PrintAnswer, and, of P4.5, that ParseAnswer of the text is the answer.
func checkAnswer(t *testing.T, kind int, a api.OpAnswer) {
	t.Helper()
	at, we := answerErr(kind, a)
	if n, e := ops.CheckAnswer(kind, a); n != at || e != we {
		t.Errorf("CheckAnswer of %d, %s: %d, %d, want %d, %d", kind, brief(a), n, e, at, we)
	}
	want := ""
	if we == api.OK {
		want = answerText(kind, a)
	}
	if len(want) > 1<<20 {
		want, we = "", api.ErrLong
	}
	s, e := ops.PrintAnswer(kind, a)
	if s != want || e != we {
		t.Errorf("PrintAnswer of %d, %s: %s, %d, want %s, %d", kind, brief(a), brief(s), e, brief(want), we)
	}
	if e != api.OK {
		return
	}
	if back, n, e := ops.ParseAnswer(kind, s); !same(back, a) || n != 0 || e != api.OK {
		t.Errorf("ParseAnswer of PrintAnswer of %d, %s: %s, %d, %d", kind, brief(a), brief(back), n, e)
	}
}

// checkParseAnswer checks ParseAnswer, and, of P4.5, that PrintAnswer of what it returns is the text.
func checkParseAnswer(t *testing.T, kind int, text string) {
	t.Helper()
	want, line, we := parsedAnswer(kind, text)
	a, n, e := ops.ParseAnswer(kind, text)
	if !same(a, want) || n != line || e != we {
		t.Errorf("ParseAnswer of %d, %s: %s, %d, %d, want %s, %d, %d", kind, brief(text), brief(a), n, e, brief(want), line, we)
	}
	if e != api.OK {
		return
	}
	if s, e := ops.PrintAnswer(kind, a); s != text || e != api.OK {
		t.Errorf("PrintAnswer of ParseAnswer of %d, %s: %s, %d", kind, brief(text), brief(s), e)
	}
}

// P4.4: the examples of the chapter.
func TestAnswerExamples(t *testing.T) {
	if s, e := ops.PrintAnswer(5, api.OpAnswer{Key: "b", Val: "7"}); s != "answer 0 0 0 0 \"b\" \"7\"\n" || e != api.OK {
		t.Errorf("PrintAnswer: %q, %d", s, e)
	}
	for _, a := range []api.OpAnswer{{N: 1}, {E: api.ErrNone, Val: "x"}} {
		if n, e := ops.CheckAnswer(4, a); n != -1 || e != api.ErrForm {
			t.Errorf("CheckAnswer of %s: %d, %d", brief(a), n, e)
		}
	}
	stats := api.StStats{Live: 1, Entries: 2, Dead: 3, Buffered: 4, Runs: 5, Height: 6, Jobs: 7, Debt: 8, Pins: 9, Cursors: 10, Held: 11, Writes: 12, Busy: 13, Seals: 14, Installs: 15, Steps: 16, Lost: 17}
	text := "answer 0 0 0 0 \"\" \"\"\nstats 1 2 3 4 5 6 7 8 9 10 11 12 13 14 15 16 17\n"
	if s, e := ops.PrintAnswer(17, api.OpAnswer{Stats: stats}); s != text || e != api.OK {
		t.Errorf("PrintAnswer: %q, %d", s, e)
	}
	if a, n, e := ops.ParseAnswer(17, text); !same(a, api.OpAnswer{Stats: stats}) || n != 0 || e != api.OK {
		t.Errorf("ParseAnswer: %s, %d, %d", brief(a), n, e)
	}
}

// P4.4 and P4.5: many answers to operations of each kind, also of another one, and with one thing changed.
func TestAnswersAll(t *testing.T) {
	d := &dice{21}
	for kind := 1; kind <= 17; kind++ {
		for range 150 {
			a := d.answer(kind)
			if n, e := ops.CheckAnswer(kind, a); n != 0 || e != api.OK {
				t.Errorf("CheckAnswer of %d, %s: %d, %d", kind, brief(a), n, e)
			}
			for other := -1; other <= 19; other++ {
				checkAnswer(t, other, a)
			}
			a.E = api.Errno(d.roll(1200) - 100)
			checkAnswer(t, kind, a)
		}
	}
}

// P4.4, CheckAnswer: the limits of 999, 10^9, 100 and 2000, just kept and just broken, and which error comes first.
func TestAnswerLimits(t *testing.T) {
	k100, k101 := repeat("k", 100), repeat("k", 101)
	good := api.DfItem{Kind: 3, Key: "a", Old: "1", New: "2"}
	items := func(n int, l ...api.DfItem) []api.DfItem { return append(slices.Repeat([]api.DfItem{good}, n), l...) }
	for i, x := range []struct {
		kind int
		a    api.OpAnswer
		item int
		e    api.Errno
	}{
		{1, api.OpAnswer{E: 999}, 0, api.OK}, {1, api.OpAnswer{E: 1000}, -1, api.ErrRange}, {1, api.OpAnswer{E: -1}, -1, api.ErrRange}, {1, api.OpAnswer{E: math.MaxInt}, -1, api.ErrRange}, {1, api.OpAnswer{E: math.MinInt}, -1, api.ErrRange}, {4, api.OpAnswer{E: 1000, N: 1}, -1, api.ErrRange}, {0, api.OpAnswer{E: 1000}, -1, api.ErrArg}, {18, api.OpAnswer{}, -1, api.ErrArg}, {-1, api.OpAnswer{}, -1, api.ErrArg}, {math.MinInt, api.OpAnswer{}, -1, api.ErrArg}, {math.MaxInt, api.OpAnswer{}, -1, api.ErrArg},
		{7, api.OpAnswer{N: 1000000000}, 0, api.OK}, {7, api.OpAnswer{N: 1000000001}, -1, api.ErrRange}, {7, api.OpAnswer{N: -1}, -1, api.ErrRange}, {7, api.OpAnswer{N: 1 << 32}, -1, api.ErrRange}, {7, api.OpAnswer{E: 4, N: 1}, -1, api.ErrForm}, {7, api.OpAnswer{N: -1, Val: "a"}, -1, api.ErrForm},
		{8, api.OpAnswer{Handle: api.Handle{Index: 1000000000, Gen: 1000000000}}, 0, api.OK}, {10, api.OpAnswer{Handle: api.Handle{Index: 1000000001}}, -1, api.ErrRange}, {8, api.OpAnswer{Handle: api.Handle{Gen: 1000000001}}, -1, api.ErrRange}, {8, api.OpAnswer{Handle: api.Handle{Index: -1}}, -1, api.ErrRange}, {8, api.OpAnswer{Handle: api.Handle{Gen: -1}}, -1, api.ErrRange}, {8, api.OpAnswer{E: 5, Handle: api.Handle{Gen: 1}}, -1, api.ErrForm}, {9, api.OpAnswer{Handle: api.Handle{Gen: 1}}, -1, api.ErrForm},
		{4, api.OpAnswer{Val: k100}, 0, api.OK}, {4, api.OpAnswer{Val: k101}, -1, api.ErrLong}, {4, api.OpAnswer{Key: "a"}, -1, api.ErrForm}, {5, api.OpAnswer{Key: k100, Val: k100}, 0, api.OK}, {6, api.OpAnswer{Key: k101}, -1, api.ErrLong}, {11, api.OpAnswer{Val: k101}, -1, api.ErrLong}, {12, api.OpAnswer{E: 12, Key: "a"}, -1, api.ErrForm}, {12, api.OpAnswer{E: 12, Val: k101}, -1, api.ErrForm},
		{14, api.OpAnswer{Items: items(2000)}, 0, api.OK}, {14, api.OpAnswer{Items: items(2001)}, -1, api.ErrLong}, {14, api.OpAnswer{Items: make([]api.DfItem, 2001)}, -1, api.ErrLong}, {14, api.OpAnswer{E: 4, Items: make([]api.DfItem, 2001)}, -1, api.ErrForm}, {14, api.OpAnswer{E: 4, Items: []api.DfItem{}}, 0, api.OK}, {4, api.OpAnswer{Items: []api.DfItem{}}, 0, api.OK}, {4, api.OpAnswer{Items: items(1)}, -1, api.ErrForm},
		{14, api.OpAnswer{Items: items(1999, api.DfItem{})}, 1999, api.ErrArg}, {14, api.OpAnswer{Items: items(1, api.DfItem{Kind: 4})}, 1, api.ErrArg}, {14, api.OpAnswer{Items: items(0, api.DfItem{Kind: -1})}, 0, api.ErrArg}, {14, api.OpAnswer{Items: items(0, api.DfItem{Kind: 4, Old: k101})}, 0, api.ErrArg},
		{14, api.OpAnswer{Items: items(2, api.DfItem{Kind: 1, Old: "x"})}, 2, api.ErrForm}, {14, api.OpAnswer{Items: items(2, api.DfItem{Kind: 2, New: "x"})}, 2, api.ErrForm}, {14, api.OpAnswer{Items: items(2, api.DfItem{Kind: 1, Key: k101, Old: "x"})}, 2, api.ErrForm}, {14, api.OpAnswer{Items: items(0, api.DfItem{Kind: 1, Old: k101})}, 0, api.ErrForm}, {14, api.OpAnswer{Items: items(0, api.DfItem{Kind: 2, New: k101})}, 0, api.ErrForm},
		{14, api.OpAnswer{Items: items(0, api.DfItem{Kind: 1, Key: k100, New: k100}, api.DfItem{Kind: 2, Key: k100, Old: k100}, api.DfItem{Kind: 3, Key: k100, Old: k100, New: k100}, api.DfItem{Kind: 3})}, 0, api.OK}, {14, api.OpAnswer{Items: items(3, api.DfItem{Kind: 3, Key: k101})}, 3, api.ErrLong}, {14, api.OpAnswer{Items: items(3, api.DfItem{Kind: 3, Old: k101})}, 3, api.ErrLong}, {14, api.OpAnswer{Items: items(3, api.DfItem{Kind: 3, New: k101})}, 3, api.ErrLong}, {14, api.OpAnswer{Items: items(3, api.DfItem{Kind: 1, New: k101})}, 3, api.ErrLong}, {14, api.OpAnswer{Items: items(1, api.DfItem{Kind: 2, Old: k101}, api.DfItem{})}, 1, api.ErrLong},
		{14, api.OpAnswer{N: -1, Items: items(1, api.DfItem{})}, -1, api.ErrForm}, {17, api.OpAnswer{N: 1}, -1, api.ErrForm}, {17, api.OpAnswer{E: 1, Stats: api.StStats{Lost: 1}}, -1, api.ErrForm}, {17, api.OpAnswer{E: 1, Stats: api.StStats{Lost: -1}}, -1, api.ErrForm}, {16, api.OpAnswer{Stats: api.StStats{Live: 1}}, -1, api.ErrForm},
	} {
		if n, e := ops.CheckAnswer(x.kind, x.a); n != x.item || e != x.e {
			t.Errorf("%d: CheckAnswer: %d, %d, want %d, %d", i, n, e, x.item, x.e)
		}
		checkAnswer(t, x.kind, x.a)
	}
}

// P4.4: each number of Stats, at its limits, and at its place in the line.
func TestAnswerStats(t *testing.T) {
	for i := range 17 {
		for _, n := range []int64{0, 1, 1000000000, -1, 1000000001, math.MaxInt64, math.MinInt64, 1 << 32} {
			var a api.OpAnswer
			reflect.ValueOf(&a.Stats).Elem().Field(i).SetInt(n)
			checkAnswer(t, 17, a)
			checkAnswer(t, 16, a)
			if n < 0 || n > 1000000000 {
				continue
			}
			want := repeat(" 0", i) + fmt.Sprintf(" %d", n) + repeat(" 0", 16-i)
			if s, e := ops.PrintAnswer(17, a); s != "answer 0 0 0 0 \"\" \"\"\nstats"+want+"\n" || e != api.OK {
				t.Errorf("PrintAnswer with the number %d: %q, %d", i, s, e)
			}
		}
	}
	if n := len(numbersOf(api.StStats{})); n != 17 {
		t.Errorf("%d numbers", n)
	}
}

// P4.4, CheckAnswer: all answers of these parts, of all kinds, and of what is none.
func TestCheckAnswerAll(t *testing.T) {
	handles := []api.Handle{{}, {Index: 1, Gen: 2}, {Index: -1}, {Gen: 1000000001}}
	items := [][]api.DfItem{nil, {}, {{Kind: 3, Key: "a", Old: "1"}}, {{Kind: 1}, {Kind: 1, Old: "x"}}, {{Kind: 2}, {}}, make([]api.DfItem, 2001)}
	stats := []api.StStats{{}, {Live: 1}, {Lost: -1}, {Debt: 1000000001}}
	seen := map[api.Errno]int{}
	for kind := 0; kind <= 18; kind++ {
		for _, errno := range []api.Errno{0, 1, 999, 1000, -1} {
			for _, key := range []string{"", "k", repeat("k", 101)} {
				for _, val := range []string{"", "v", repeat("v", 101)} {
					for _, n := range []int{0, 1, -1, 1000000001} {
						for _, h := range handles {
							for _, l := range items {
								for _, s := range stats {
									a := api.OpAnswer{E: errno, Key: key, Val: val, N: n, Handle: h, Items: l, Stats: s}
									at, want := answerErr(kind, a)
									seen[want]++
									if i, e := ops.CheckAnswer(kind, a); i != at || e != want {
										t.Errorf("CheckAnswer of %d, %s: %d, %d, want %d, %d", kind, brief(a), i, e, at, want)
									}
								}
							}
						}
					}
				}
			}
		}
	}
	for _, e := range []api.Errno{api.OK, api.ErrArg, api.ErrRange, api.ErrForm, api.ErrLong} {
		if seen[e] < 4 {
			t.Errorf("error %d was seen %d times", e, seen[e])
		}
	}
}

// P4.4, PrintAnswer: a text of 2^20 bytes, and one of one more.
func TestAnswerTextLimits(t *testing.T) {
	wide := api.DfItem{Kind: 3, Key: repeat("\x00", 100), Old: repeat("\x00", 100), New: repeat("\x00", 100)}
	const head, line, least = 21, 6 + 3*403 + 1, 16
	full := api.OpAnswer{Items: slices.Repeat([]api.DfItem{wide}, 2000)}
	checkAnswer(t, 14, full)
	many := (1<<20 - head) / line
	// What is left is filled by two more items, whose lines have at least 16 bytes.
	left := 1<<20 - head - (many-1)*line
	for more := range 3 {
		fill := left - 2*least + more - 1
		a := api.OpAnswer{Items: append(slices.Repeat([]api.DfItem{wide}, many-1), sized(fill/2), sized(fill-fill/2))}
		s, e := ops.PrintAnswer(14, a)
		if size := 1<<20 + more - 1; more < 2 && (len(s) != size || e != api.OK) || more == 2 && (s != "" || e != api.ErrLong) {
			t.Errorf("PrintAnswer with %d bytes: %d, %d", size, len(s), e)
		}
		checkAnswer(t, 14, a)
	}
}

// sized returns an item whose strings have n bytes as they are written, without quotes.
func sized(n int) api.DfItem {
	var l [3]string
	for i := range l {
		for n >= 4 && len(l[i]) < 97 {
			l[i] += "\xff"
			n -= 4
		}
	}
	l[2] += repeat("a", n)
	return api.DfItem{Kind: 3, Key: l[0], Old: l[1], New: l[2]}
}

const (
	emptyHead  = "answer 0 0 0 0 \"\" \"\"\n"
	someItem   = "item 1 \"a\" \"\" \"x\"\n"
	emptyStats = "stats 0 0 0 0 0 0 0 0 0 0 0 0 0 0 0 0 0\n"
)

// P4.4, ParseAnswer: what is no text of an answer, and where.
func TestParseAnswerCases(t *testing.T) {
	k101 := repeat("k", 101)
	for i, x := range []struct {
		kind int
		text string
		line int
		e    api.Errno
	}{
		{0, emptyHead, 0, api.ErrArg}, {18, "", 0, api.ErrArg}, {-1, "x", 0, api.ErrArg}, {0, repeat("x", 1<<20+1), 0, api.ErrArg},
		{1, "", 1, api.ErrForm}, {17, "", 1, api.ErrForm}, {1, "\n", 1, api.ErrForm}, {1, "x", 0, api.ErrForm}, {1, emptyHead[:20], 0, api.ErrForm}, {1, emptyHead + "x", 0, api.ErrForm}, {1, "x\n" + repeat("\n", 5000), 0, api.ErrLong}, {1, "x\n" + repeat("\n", 4999), 1, api.ErrForm}, {1, repeat("x", 1<<20) + "\n", 0, api.ErrLong}, {1, repeat("x", 1<<20-1) + "\n", 1, api.ErrForm},
		{1, emptyHead, 0, api.OK}, {1, emptyHead + "\n", 2, api.ErrForm}, {1, "\n" + emptyHead, 1, api.ErrForm}, {1, emptyHead + emptyHead, 2, api.ErrForm}, {1, someItem, 1, api.ErrForm}, {17, emptyStats, 1, api.ErrForm}, {1, emptyHead + emptyStats, 2, api.ErrForm}, {14, emptyHead + emptyStats, 2, api.ErrForm}, {14, emptyHead + someItem + emptyStats, 3, api.ErrForm},
		{1, "answer 0 0 0 0 \"\"\n", 1, api.ErrForm}, {1, "answer 0 0 0 0 \"\" \"\" \"\"\n", 1, api.ErrForm}, {1, "answer 0 0 0 0 \"\" a\n", 1, api.ErrForm}, {1, "answer 0 0 0 0 a \"\"\n", 1, api.ErrForm}, {1, "answer 0 0 0 \"0\" \"\" \"\"\n", 1, api.ErrForm}, {1, "\"answer\" 0 0 0 0 \"\" \"\"\n", 1, api.ErrForm}, {1, "Answer 0 0 0 0 \"\" \"\"\n", 1, api.ErrForm}, {1, "answer 0 0 0 \"\" \"\"\n", 1, api.ErrForm}, {1, "answer 00 0 0 0 \"\" \"\"\n", 1, api.ErrForm}, {1, "answer 0 -1 0 0 \"\" \"\"\n", 1, api.ErrForm}, {1, "answer 1000000001 0 0 0 \"\" \"\"\n", 1, api.ErrForm}, {1, "answer -1 0 0 0 \"\" \"\"\n", 1, api.ErrForm}, {7, "answer 0 1000000001 0 0 \"\" \"\"\n", 1, api.ErrForm}, {8, "answer 0 0 1000000001 0 \"\" \"\"\n", 1, api.ErrForm}, {8, "answer 0 0 0 1000000001 \"\" \"\"\n", 1, api.ErrForm}, {1, "answer 0 0 0 0  \"\" \"\"\n", 1, api.ErrForm}, {1, "answer 0 0 0 0 \"\" \"\" \n", 1, api.ErrForm},
		{1, "answer 999 0 0 0 \"\" \"\"\n", 0, api.OK}, {1, "answer 1000 0 0 0 \"\" \"\"\n", 0, api.ErrRange}, {1, "answer 1000000000 5 0 0 \"a\" \"\"\n", 0, api.ErrRange}, {1, "answer 1000 0 0 0 \"\" \"\"\nx\n", 2, api.ErrForm}, {4, "answer 0 1 0 0 \"\" \"x\"\n", 0, api.ErrForm}, {4, "answer 4 0 0 0 \"\" \"x\"\n", 0, api.ErrForm}, {4, "answer 0 0 0 0 \"\" \"" + k101 + "\"\n", 0, api.ErrLong}, {5, "answer 0 0 0 0 \"" + k101 + "\" \"\"\n", 0, api.ErrLong}, {5, "answer 0 0 0 0 \"" + repeat("k", 2000) + "\" \"\"\n", 0, api.ErrLong}, {5, "answer 0 0 0 0 \"" + repeat("k", 2001) + "\" \"\"\n", 1, api.ErrForm}, {5, "answer 0 0 0 0 \"" + repeat("k", 9000) + "\" \"\"\n", 1, api.ErrForm}, {8, "answer 0 0 1000000000 1000000000 \"\" \"\"\n", 0, api.OK}, {7, "answer 0 1000000000 0 0 \"\" \"\"\n", 0, api.OK},
		{1, emptyHead + someItem, 0, api.ErrForm}, {1, "answer 4 0 0 0 \"\" \"\"\n" + someItem, 0, api.ErrForm}, {14, "answer 4 0 0 0 \"\" \"\"\n" + someItem, 0, api.ErrForm}, {14, emptyHead + someItem, 0, api.OK}, {14, emptyHead, 0, api.OK}, {14, emptyHead + repeat(someItem, 2000), 0, api.OK}, {14, emptyHead + repeat(someItem, 2001), 0, api.ErrLong}, {14, emptyHead + repeat(someItem, 4999), 0, api.ErrLong}, {14, emptyHead + repeat(someItem, 5000), 0, api.ErrLong}, {14, emptyHead + repeat(someItem, 4998) + "x\n", 5000, api.ErrForm}, {14, emptyHead + repeat(someItem, 2001) + "\n", 2003, api.ErrForm},
		{14, emptyHead + "item 0 \"a\" \"\" \"x\"\n", 0, api.ErrArg}, {14, emptyHead + "item 4 \"a\" \"\" \"x\"\n", 0, api.ErrArg}, {14, emptyHead + "item 1000000000 \"a\" \"\" \"x\"\n", 0, api.ErrArg}, {14, emptyHead + "item 1000000001 \"a\" \"\" \"x\"\n", 2, api.ErrForm}, {14, emptyHead + "item 1 \"a\" \"y\" \"x\"\n", 0, api.ErrForm}, {14, emptyHead + "item 2 \"a\" \"y\" \"x\"\n", 0, api.ErrForm}, {14, emptyHead + someItem + "item 3 \"" + k101 + "\" \"\" \"\"\n", 0, api.ErrLong}, {14, emptyHead + "item 3 \"\" \"" + repeat("x", 2001) + "\" \"\"\n", 2, api.ErrForm}, {14, emptyHead + "item 4 \"a\" \"\" \"x\"\nitem\n", 3, api.ErrForm},
		{14, emptyHead + "item 1 \"a\" \"x\"\n", 2, api.ErrForm}, {14, emptyHead + "item 1 \"a\" \"\" \"x\" \"\"\n", 2, api.ErrForm}, {14, emptyHead + "item \"a\" \"\" \"x\"\n", 2, api.ErrForm}, {14, emptyHead + "item \"1\" \"a\" \"\" \"x\"\n", 2, api.ErrForm}, {14, emptyHead + "item 1 a \"\" \"x\"\n", 2, api.ErrForm}, {14, emptyHead + "items 1 \"a\" \"\" \"x\"\n", 2, api.ErrForm}, {14, emptyHead + someItem + "\n" + someItem, 3, api.ErrForm}, {14, emptyHead + someItem + emptyHead, 3, api.ErrForm},
		{17, emptyHead + emptyStats, 0, api.OK}, {17, emptyHead, 2, api.ErrForm}, {17, emptyHead + someItem, 2, api.ErrForm}, {17, emptyHead + someItem + someItem, 3, api.ErrForm}, {17, emptyHead + someItem + emptyStats, 0, api.ErrForm}, {17, emptyHead + emptyStats + emptyStats, 2, api.ErrForm}, {17, emptyHead + emptyStats + "\n", 2, api.ErrForm}, {17, emptyHead + emptyStats + someItem, 2, api.ErrForm}, {17, emptyHead + "\n" + emptyStats, 2, api.ErrForm}, {17, emptyHead + emptyHead, 2, api.ErrForm}, {17, emptyHead + repeat(someItem, 4998) + emptyStats, 0, api.ErrForm}, {17, emptyHead + repeat(someItem, 4997) + "x\n" + emptyStats, 4999, api.ErrForm},
		{17, "answer 4 0 0 0 \"\" \"\"\n", 0, api.OK}, {17, "answer 4 0 0 0 \"\" \"\"\n" + emptyStats, 2, api.ErrForm}, {17, "answer 1000 0 0 0 \"\" \"\"\n" + emptyStats, 2, api.ErrForm}, {17, "answer 1000 0 0 0 \"\" \"\"\n", 0, api.ErrRange}, {17, "answer 4 0 0 0 \"\" \"\"\n" + someItem, 0, api.ErrForm}, {17, "answer 0 1 0 0 \"\" \"\"\n" + emptyStats, 0, api.ErrForm}, {17, "answer 0 1 0 0 \"\" \"\"\n", 2, api.ErrForm},
		{17, emptyHead + "stats" + repeat(" 0", 16) + "\n", 2, api.ErrForm}, {17, emptyHead + "stats" + repeat(" 0", 18) + "\n", 2, api.ErrForm}, {17, emptyHead + "stats" + repeat(" 1000000000", 17) + "\n", 0, api.OK}, {17, emptyHead + "stats" + repeat(" 0", 16) + " 1000000001\n", 2, api.ErrForm}, {17, emptyHead + "stats" + repeat(" 0", 10) + " -1" + repeat(" 0", 6) + "\n", 2, api.ErrForm}, {17, emptyHead + "stats" + repeat(" 0", 10) + " \"1\"" + repeat(" 0", 6) + "\n", 2, api.ErrForm}, {17, emptyHead + "\"stats\"" + repeat(" 0", 17) + "\n", 2, api.ErrForm}, {17, emptyHead + "stats" + repeat(" 0", 64) + "\n", 2, api.ErrForm},
	} {
		a, n, e := ops.ParseAnswer(x.kind, x.text)
		if n != x.line || e != x.e || e != api.OK && !same(a, api.OpAnswer{}) {
			t.Errorf("%d: ParseAnswer: %s, %d, %d, want %d, %d", i, brief(a), n, e, x.line, x.e)
		}
		for kind := range 19 {
			checkParseAnswer(t, kind, x.text)
		}
	}
}

// P4.4 and P4.5: all texts that are one change away from one of an answer.
func TestParseAnswerNear(t *testing.T) {
	for _, x := range []struct {
		kind int
		text string
	}{
		{1, emptyHead}, {4, "answer 0 0 0 0 \"\" \"x\\x00\"\n"}, {7, "answer 0 100 0 0 \"\" \"\"\n"}, {8, "answer 0 0 3 20 \"\" \"\"\n"}, {14, emptyHead + someItem + "item 2 \"b\" \"y\" \"\"\n"}, {17, emptyHead + "stats 1 2 3 4 5 6 7 8 9 10 11 12 13 14 15 16 17\n"}, {17, "answer 10 0 0 0 \"\" \"\"\n"},
	} {
		for at := range len(x.text) {
			checkParseAnswer(t, x.kind, x.text[:at]+x.text[at+1:])
			checkParseAnswer(t, x.kind, x.text[:at])
			checkParseAnswer(t, x.kind, x.text[at:])
			for c := range 256 {
				b := string([]byte{byte(c)})
				checkParseAnswer(t, x.kind, x.text[:at]+b+x.text[at:])
				checkParseAnswer(t, x.kind, x.text[:at]+b+x.text[at+1:])
			}
		}
	}
}

// P4.4 and P4.5: all short rows of lines, for each kind.
func TestParseAnswerAll(t *testing.T) {
	lines := []string{emptyHead, "answer 4 0 0 0 \"\" \"\"\n", "answer 0 1 0 0 \"\" \"\"\n", "answer 0 0 1 2 \"\" \"\"\n", "answer 0 0 0 0 \"\" \"x\"\n", "answer 0 0 0 0 \"a\" \"x\"\n", "answer 1000 0 0 0 \"\" \"\"\n", someItem, "item 2 \"a\" \"x\" \"\"\n", "item 2 \"a\" \"\" \"x\"\n", "item 0 \"\" \"\" \"\"\n", emptyStats, "stats 1\n", "\n", "x"}
	var grow func(kind int, text string, left int)
	grow = func(kind int, text string, left int) {
		checkParseAnswer(t, kind, text)
		for _, s := range lines {
			if left > 0 {
				grow(kind, text+s, left-1)
			}
		}
	}
	for kind := range 19 {
		grow(kind, "", 3)
	}
}

package words_test

import (
	"math"
	"slices"
	"testing"

	"bookend/api"
	"bookend/words"
)

// everything calls each function with each of the arguments, and returns all results as one list of strings.
func everything(texts []string, lists [][]int, fields [][]api.Field) []string {
	var out []string
	note := func(e api.Errno, l ...string) {
		out = append(append(out, words.Digits(int64(e))), l...)
	}
	for _, s := range texts {
		if words.Name(s) {
			note(0, s)
		}
		for _, b := range [][2]int64{{0, 10}, {10, 0}, {math.MinInt64, math.MaxInt64}, {math.MaxInt64, math.MinInt64}} {
			n, e := words.Int(s, b[0], b[1])
			note(e, words.Digits(n))
		}
		note(0, words.Quote(s))
		q, e := words.Unquote(s)
		note(e, q)
		l, e := words.Split(s)
		for _, f := range l {
			note(0, f.S)
		}
		note(e)
		lines, e := words.Lines(s)
		note(e, lines...)
		n, e := words.ParseList(s)
		note(e, words.Digits(int64(len(n))))
	}
	for _, l := range lists {
		s, e := words.List(l)
		note(e, s)
	}
	for _, l := range fields {
		s, e := words.Join(l)
		note(e, s)
	}
	return out
}

// P1 (R1, R6) and P1.8: all arguments are accepted, and the same ones give the same results again.
func TestAllArguments(t *testing.T) {
	texts := []string{"", "-", "\"", "\\", "\n", "\x00", "\xff\xfe", "a", "1-3,5", "\"a\\", "\"\\x", "\"\\x0", noise(100), noise(3000), noise(20000), repeat("9", 100000), repeat("-", 100000), repeat(",", 100000), repeat("\"", 8192), repeat("\\", 8192), repeat(" ", 8192), repeat("\n", 1<<20), noise(1<<20 + 1)}
	for c := range 256 {
		texts = append(texts, string([]byte{byte(c)}), string([]byte{'"', byte(c)}), string([]byte{'"', '\\', byte(c)}))
	}
	lists := [][]int{nil, {}, {math.MinInt}, {math.MaxInt, math.MinInt}, {0, math.MaxInt}, make([]int, 100000), from(0, 501, 1)}
	fields := [][]api.Field{nil, {}, {{}}, times(1000, api.Field{}), times(64, quoted(noise(2000))), {bare(noise(1 << 20))}, {quoted(noise(1 << 20))}}
	if !slices.Equal(everything(texts, lists, fields), everything(texts, lists, fields)) {
		t.Error("the same arguments give other results")
	}
}

// P1 (R4): nil and empty lists are the same.
func TestEmptyLists(t *testing.T) {
	for _, l := range [][]int{nil, {}} {
		if s, e := words.List(l); s != "-" || e != api.OK {
			t.Errorf("List: %s, %d", s, e)
		}
	}
	for _, l := range [][]api.Field{nil, {}} {
		if s, e := words.Join(l); s != "" || e != api.OK {
			t.Errorf("Join: %s, %d", s, e)
		}
	}
}

// P1 (R3): arguments are not changed, not even behind their length.
func TestArgumentsKept(t *testing.T) {
	for _, l := range [][]int{{3, 2, 1}, {1, 2, 3}, {1, 1000000001}, from(0, 500, 1), from(0, 501, 1)} {
		more := append(slices.Clone(l), 77, 78)
		words.List(more[:len(l)])
		if !slices.Equal(more, append(slices.Clone(l), 77, 78)) {
			t.Errorf("List changed its argument: %.40v", more)
		}
	}
	for _, l := range [][]api.Field{{bare("b"), quoted("a\n")}, {bare(""), quoted("a")}, times(65, bare("x"))} {
		more := append(slices.Clone(l), bare("y"), quoted("z"))
		words.Join(more[:len(l)])
		if !slices.Equal(more, append(slices.Clone(l), bare("y"), quoted("z"))) {
			t.Errorf("Join changed its argument: %.40v", more)
		}
	}
}

// spoil overwrites a list, and what may lie behind its length.
func spoil[T any](l []T, with T) {
	for i := range l[:cap(l)] {
		l[:cap(l)][i] = with
	}
}

// checkFresh overwrites the first of several results of one call; the others must be as wanted.
func checkFresh[T comparable](t *testing.T, call func(string) ([]T, api.Errno), arg string, with T, want ...T) {
	t.Helper()
	first, _ := call(arg)
	kept, _ := call(arg)
	spoil(first, with)
	later, _ := call(arg)
	if !slices.Equal(kept, want) || !slices.Equal(later, want) {
		t.Errorf("%q: %v, and later %v, want %v", arg, kept, later, want)
	}
}

// P1 (R3) and P1.8: results are fresh memory: who overwrites one changes neither another one nor a later one.
func TestResultsFresh(t *testing.T) {
	checkFresh(t, words.Split, "", bare("x"))
	checkFresh(t, words.Split, "a", bare("x"), bare("a"))
	checkFresh(t, words.Split, "a \"b\" c", bare("x"), bare("a"), quoted("b"), bare("c"))
	checkFresh(t, words.Lines, "", "x")
	checkFresh(t, words.Lines, "\n", "x", "")
	checkFresh(t, words.Lines, "a\nb\n", "x", "a", "b")
	checkFresh(t, words.ParseList, "-", 99)
	checkFresh(t, words.ParseList, "0", 99, 0)
	checkFresh(t, words.ParseList, "1-3,5", 99, 1, 2, 3, 5)
}

// P1 (R3): a result does not follow its argument when this is changed later.
func TestResultsApart(t *testing.T) {
	numbers := []int{1, 2, 3}
	expr, _ := words.List(numbers)
	spoil(numbers, 9)
	fields := []api.Field{bare("a"), quoted("b")}
	line, _ := words.Join(fields)
	spoil(fields, bare("x"))
	if expr != "1-3" || line != "a \"b\"" {
		t.Errorf("List: %s, Join: %s", expr, line)
	}
}

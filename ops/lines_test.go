package ops_test

import (
	"regexp"
	"strconv"
	"strings"
	"testing"

	"bookend/api"
	"bookend/ops"
	"bookend/words"
)

// The forms of fields, and of the lines of operations by their kinds.
const (
	num = ` (0|[1-9][0-9]{0,8}|1000000000)`
	str = ` ("(?:[ !#-\[\]-~]|\\["\\nrt]|\\x(?:0[0-8bcef]|1[0-9a-f]|7f|[89a-f][0-9a-f]))*")`
)

var (
	callForms = func() []*regexp.Regexp {
		var l []*regexp.Regexp
		for kind, rest := range []string{"", str + str, str, `((?: put` + str + str + `| del` + str + `)*)`, num + num + str, num + num + str, num + num + str, num + num + str + `(?:` + str + `)?`, "", num + num, num + num + str + `(?:` + str + `)?`, num + num, num + num, num + num, num + num + num + num, "", "", ""} {
			l = append(l, regexp.MustCompile(`\A`+names[kind]+num+rest+`\z`))
		}
		return l
	}()
	writeForm = regexp.MustCompile(` (?:put` + str + str + `|del` + str + `)`)
)

// whole returns the integer of a decimal form, and unquoted the string of a quoted one.
func whole(s string) int {
	n, _ := strconv.Atoi(s)
	return n
}

func unquoted(s string) string {
	s, _ = words.Unquote(s)
	return s
}

// formOf returns what a line says, and whether it has the form of one of an operation.
func formOf(line string) (api.OpCall, bool) {
	for kind := 1; kind <= 17; kind++ {
		m := callForms[kind].FindStringSubmatch(line)
		if m == nil {
			continue
		}
		c := api.OpCall{Kind: kind, Grant: whole(m[1])}
		switch kind {
		case 1:
			c.Key, c.Val = unquoted(m[2]), unquoted(m[3])
		case 2:
			c.Key = unquoted(m[2])
		case 3:
			for _, w := range writeForm.FindAllStringSubmatch(m[2], -1) {
				if w[3] != "" {
					c.Writes = append(c.Writes, api.OpWrite{Key: unquoted(w[3]), Dead: true})
				} else {
					c.Writes = append(c.Writes, api.OpWrite{Key: unquoted(w[1]), Val: unquoted(w[2])})
				}
			}
		case 8, 15, 16, 17:
		default:
			c.Handle = api.Handle{Index: whole(m[2]), Gen: whole(m[3])}
		}
		switch kind {
		case 4, 5, 6:
			c.Key = unquoted(m[4])
		case 7, 10:
			c.Range = api.KeRange{Low: unquoted(m[4]), High: unquoted(m[5]), Bound: m[5] != ""}
		case 14:
			c.Other = api.Handle{Index: whole(m[4]), Gen: whole(m[5])}
		}
		return c, true
	}
	return api.OpCall{}, false
}

// parsed is what Parse must return.
func parsed(line string) (api.OpCall, api.Errno) {
	if _, e := words.Split(line); e != api.OK {
		return api.OpCall{}, e
	}
	c, ok := formOf(line)
	if !ok {
		return api.OpCall{}, api.ErrForm
	}
	if e := errOf(c); e != api.OK {
		return api.OpCall{}, e
	}
	return c, api.OK
}

// checkParse checks Parse, and, of P4.5, that Print of what it returns is the line.
func checkParse(t *testing.T, line string) {
	t.Helper()
	want, we := parsed(line)
	c, e := ops.Parse(line)
	if !same(c, want) || e != we {
		t.Errorf("Parse of %s: %s, %d, want %s, %d", brief(line), brief(c), e, brief(want), we)
	}
	if e != api.OK {
		return
	}
	if s, e := ops.Print(c); s != line || e != api.OK {
		t.Errorf("Print of Parse of %s: %s, %d", brief(line), brief(s), e)
	}
}

// checkPrint checks Print, and, of P4.5, that Parse of the line is the operation.
func checkPrint(t *testing.T, c api.OpCall) {
	t.Helper()
	want, we := "", errOf(c)
	if we == api.OK {
		want = lineOf(c)
	}
	s, e := ops.Print(c)
	if s != want || e != we {
		t.Errorf("Print of %s: %s, %d, want %s, %d", brief(c), brief(s), e, brief(want), we)
	}
	if e != api.OK {
		return
	}
	if back, e := ops.Parse(s); !same(back, c) || e != api.OK {
		t.Errorf("Parse of Print of %s: %s, %d", brief(c), brief(back), e)
	}
}

// P4.2: the examples of the chapter.
func TestLineExamples(t *testing.T) {
	for line, c := range map[string]api.OpCall{
		"put 5 \"a\" \"x\"":                       {Kind: 1, Grant: 5, Key: "a", Val: "x"},
		"batch 0 put \"a\" \"x\" del \"b\"":       {Kind: 3, Writes: []api.OpWrite{{Key: "a", Val: "x"}, {Key: "b", Dead: true}}},
		"get 0 2 1 \"a\"":                         {Kind: 4, Handle: api.Handle{Index: 2, Gen: 1}, Key: "a"},
		"count 0 0 0 \"b\"":                       {Kind: 7, Range: api.KeRange{Low: "b"}},
		"open 0 0 0 \"a\" \"c\"":                  {Kind: 10, Range: api.KeRange{Low: "a", High: "c", Bound: true}},
		"diff 0 1 1 0 0":                          {Kind: 14, Handle: api.Handle{Index: 1, Gen: 1}},
		"work 100":                                {Kind: 15, Grant: 100},
		"diff 7 1 2 3 4":                          {Kind: 14, Grant: 7, Handle: api.Handle{Index: 1, Gen: 2}, Other: api.Handle{Index: 3, Gen: 4}},
		"open 1000000 3 4 \"\" \"\"":              {Kind: 10, Grant: 1000000, Handle: api.Handle{Index: 3, Gen: 4}, Range: api.KeRange{Bound: true}},
		"del 0 \"\\\"\\\\\\n\\x00\\xff \"":        {Kind: 2, Key: "\"\\\n\x00\xff "},
		"batch 1 del \"\" del \"\" put \"\" \"\"": {Kind: 3, Grant: 1, Writes: []api.OpWrite{{Dead: true}, {Dead: true}, {}}},
	} {
		if s, e := ops.Print(c); s != line || e != api.OK {
			t.Errorf("Print: %s, %d, want %s", s, e, line)
		}
		if back, e := ops.Parse(line); !same(back, c) || e != api.OK {
			t.Errorf("Parse of %s: %s, %d", line, brief(back), e)
		}
	}
	for line, want := range map[string]api.Errno{"put 5 \"a\"": api.ErrForm, "get 0 0 \"a\"": api.ErrForm, "stats 1000001": api.ErrRange} {
		if c, e := ops.Parse(line); !same(c, api.OpCall{}) || e != want {
			t.Errorf("Parse of %s: %s, %d, want %d", line, brief(c), e, want)
		}
	}
}

// P4.2 and P4.5: many operations of each kind, and the longest ones.
func TestPrintAll(t *testing.T) {
	for _, c := range (&dice{2}).calls(300) {
		checkPrint(t, c)
		c.Grant = 1000001
		checkPrint(t, c)
	}
	wide, top := repeat("\x00", 100), api.Handle{Index: 1000000000, Gen: 1000000000}
	var writes []api.OpWrite
	for range 8 {
		writes = append(writes, api.OpWrite{Key: wide, Val: wide})
	}
	for kind := 1; kind <= 17; kind++ {
		full := api.OpCall{Kind: kind, Grant: 1000000, Key: wide, Val: wide, Range: api.KeRange{Low: wide, High: wide, Bound: true}, Handle: top, Other: top, Writes: writes}
		checkPrint(t, full)
		c := trimmed(full)
		if e := ops.Check(c); e != api.OK {
			t.Errorf("Check of %s: %d", brief(c), e)
		}
		checkPrint(t, c)
	}
}

// trimmed returns an operation without what its kind does not have.
func trimmed(c api.OpCall) api.OpCall {
	t := api.OpCall{Kind: c.Kind, Grant: c.Grant}
	for _, part := range strings.Fields(partsOfCall[c.Kind]) {
		switch part {
		case "Key":
			t.Key = c.Key
		case "Val":
			t.Val = c.Val
		case "Handle":
			t.Handle = c.Handle
		case "Other":
			t.Other = c.Other
		case "Range":
			t.Range = c.Range
		case "Writes":
			t.Writes = c.Writes
		}
	}
	return t
}

// P4.2, Print: what is no operation has no line, but the error of Check.
func TestPrintErrors(t *testing.T) {
	for _, c := range wrongCalls() {
		if errOf(c) == api.OK {
			t.Errorf("%s is an operation", brief(c))
		}
		checkPrint(t, c)
	}
}

// P4.2, Parse: what is not the line of an operation, or of a wrong one; the error of words.Split comes first, then the form.
func TestParseCases(t *testing.T) {
	for line, want := range map[string]api.Errno{
		"": api.ErrForm, " ": api.ErrForm, "pin": api.ErrForm, "pin ": api.ErrForm, " pin 0": api.ErrForm, "pin 0 ": api.ErrForm, "pin  0": api.ErrForm, "pin 0\n": api.ErrForm, "pin\t0": api.ErrForm, "pin 0\x00": api.ErrForm, "\"pin\" 0": api.ErrForm, "Pin 0": api.ErrForm, "pins 0": api.ErrForm, "0 pin": api.ErrForm, "0": api.ErrForm, "\"\"": api.ErrForm, "answer 0": api.ErrForm, "none 0": api.ErrForm,
		"pin \"0\"": api.ErrForm, "pin 00": api.ErrForm, "pin 01": api.ErrForm, "pin +1": api.ErrForm, "pin -0": api.ErrForm, "pin -1": api.ErrForm, "pin 1.0": api.ErrForm, "pin x": api.ErrForm, "pin 0x1": api.ErrForm, "pin 1000000": api.OK, "pin 1000001": api.ErrRange, "pin 1000000000": api.ErrRange, "pin 1000000001": api.ErrForm, "pin 4294967296": api.ErrForm, "pin 18446744073709551616": api.ErrForm, "pin 99999999999999999999": api.ErrForm, "pin -99999999999999999999": api.ErrForm,
		"pin 0 0": api.ErrForm, "pin 0 \"\"": api.ErrForm, "pin 0 pin": api.ErrForm, "work 0 0 0": api.ErrForm, "compact 0 \"a\"": api.ErrForm, "stats 0 0": api.ErrForm, "pin 1000001 0": api.ErrForm,
		"unpin 0": api.ErrForm, "unpin 0 1": api.ErrForm, "unpin 0 1 1 1": api.ErrForm, "unpin 0 1 \"1\"": api.ErrForm, "unpin 0 \"1\" 1": api.ErrForm, "unpin 0 1 -1": api.ErrForm, "unpin 0 -1 1": api.ErrForm, "unpin 0 1 1000000001": api.ErrForm, "unpin 0 1000000001 1": api.ErrForm, "unpin 0 1000000000 1000000000": api.OK, "unpin 1000001 1000000000 0": api.ErrRange, "unpin 1000001 1000000001 0": api.ErrForm,
		"diff 0 0 0 0": api.ErrForm, "diff 0 0 0 0 0 0": api.ErrForm, "diff 0 0 0 0 \"0\"": api.ErrForm, "diff 0 0 0 x 0": api.ErrForm, "diff 0 0 0 0 1000000001": api.ErrForm, "next 0 0": api.ErrForm, "prev 0": api.ErrForm, "shut 0 0 0 0": api.ErrForm,
		"put 0": api.ErrForm, "put 0 \"a\"": api.ErrForm, "put 0 \"a\" \"b\" \"c\"": api.ErrForm, "put 0 a \"b\"": api.ErrForm, "put 0 \"a\" b": api.ErrForm, "put 0 \"a\"\"b\"": api.ErrForm, "put 0 \"a\" \"\\x62\"": api.ErrForm, "put \"a\" \"b\"": api.ErrForm, "put \"a\" \"b\" 0": api.ErrForm, "put 0 \"a\" \"b": api.ErrForm, "del 0": api.ErrForm, "del 0 a": api.ErrForm, "del 0 \"a\" \"b\"": api.ErrForm, "del 0 0": api.ErrForm,
		"get 0 0 0": api.ErrForm, "get 0 0 \"a\"": api.ErrForm, "get 0 \"a\"": api.ErrForm, "get 0 0 0 a": api.ErrForm, "get 0 \"a\" 0 0": api.ErrForm, "floor 0 0 0 \"a\" \"b\"": api.ErrForm, "ceiling 0 0 0 0": api.ErrForm,
		"count 0 0 0": api.ErrForm, "count 0 0 0 a": api.ErrForm, "count 0 0 0 \"a\" b": api.ErrForm, "count 0 0 0 \"a\" \"b\" \"c\"": api.ErrForm, "open 0 \"a\"": api.ErrForm, "open 0 0 \"a\" \"b\"": api.ErrForm, "open 0 0 0 a \"b\"": api.ErrForm,
		"batch 0": api.ErrNone, "batch": api.ErrForm, "batch 1000001": api.ErrRange, "batch 0 put": api.ErrForm, "batch 0 put \"a\"": api.ErrForm, "batch 0 put \"a\" x": api.ErrForm, "batch 0 put x \"a\"": api.ErrForm, "batch 0 del": api.ErrForm, "batch 0 del x": api.ErrForm, "batch 0 get \"a\"": api.ErrForm, "batch 0 \"del\" \"a\"": api.ErrForm, "batch 0 \"put\" \"a\" \"b\"": api.ErrForm, "batch 0 \"a\" \"b\"": api.ErrForm, "batch 0 del \"a\" \"b\"": api.ErrForm, "batch 0 del \"a\" put \"b\"": api.ErrForm, "batch 0 del \"a\" x": api.ErrForm, "batch 0 put \"a\" del \"b\"": api.ErrForm, "batch 0 batch": api.ErrForm,
		"batch 0" + repeat(" del \"a\"", 8): api.OK, "batch 0" + repeat(" del \"a\"", 9): api.ErrLong, "batch 0" + repeat(" del \"a\"", 31): api.ErrLong, "batch 0" + repeat(" del \"a\"", 32): api.ErrLong, "batch 0" + repeat(" del \"a\"", 9) + " x": api.ErrForm, "batch 1000001" + repeat(" del \"a\"", 9): api.ErrRange, "batch 1000001" + repeat(" x", 9): api.ErrForm,
		"del 0 \"" + repeat("k", 100) + "\"": api.OK, "del 0 \"" + repeat("k", 101) + "\"": api.ErrLong, "del 0 " + repeat("k", 101): api.ErrForm, "del 1000001 \"" + repeat("k", 101) + "\"": api.ErrRange, "del 0 \"" + repeat("k", 2000) + "\"": api.ErrLong, "del 0 \"" + repeat("k", 2001) + "\"": api.ErrLong, "none \"" + repeat("k", 2000) + "\"": api.ErrForm, "none \"" + repeat("k", 2001) + "\"": api.ErrLong, "del 0 \"" + repeat("k", 2001): api.ErrForm, "put 0 \"\" \"" + repeat("\\xff", 101) + "\"": api.ErrLong, "count 0 0 0 \"" + repeat("k", 101) + "\"": api.ErrLong, "open 0 0 0 \"\" \"" + repeat("k", 101) + "\"": api.ErrLong, "open 0 0 0 \"\" \"" + repeat("k", 101) + "\" 0": api.ErrForm,
		repeat("a ", 63) + "a": api.ErrForm, repeat("a ", 64) + "a": api.ErrLong, repeat(" ", 8192): api.ErrForm, repeat(" ", 8193): api.ErrLong, repeat("\"", 1<<20): api.ErrLong, "pin " + repeat("0", 2000): api.ErrForm, "pin " + repeat("0", 2001): api.ErrLong, "pin 1" + repeat("0", 1999): api.ErrForm,
	} {
		if c, e := ops.Parse(line); e != want || e != api.OK && !same(c, api.OpCall{}) {
			t.Errorf("Parse of %s: %s, %d, want %d", brief(line), brief(c), e, want)
		}
		checkParse(t, line)
	}
}

// P4.2 and P4.5: all lines that are one change away from one of an operation.
func TestParseNear(t *testing.T) {
	for _, line := range []string{
		"put 5 \"a\" \"\\x00\"", "del 10 \"\"", "batch 0 put \"a\" \"x\" del \"b\"", "get 0 2 1 \"a\"", "floor 1 2 3 \"b\"", "ceiling 0 0 0 \"\"", "count 0 0 0 \"b\"", "count 9 8 7 \"a\" \"b\"", "pin 100000", "unpin 0 100000000 0",
		"open 0 1 1 \"\" \"c\"", "next 0 1 1", "prev 1000000 1 0", "shut 0 0 1", "diff 0 1 2 3 4", "work 100", "compact 7", "stats 0",
	} {
		for at := range len(line) {
			checkParse(t, line[:at]+line[at+1:])
			checkParse(t, line[:at])
			checkParse(t, line[at:])
			for c := range 256 {
				b := string([]byte{byte(c)})
				checkParse(t, line[:at]+b+line[at:])
				checkParse(t, line[:at]+b+line[at+1:])
				checkParse(t, line+b)
			}
		}
	}
}

// P4.2 and P4.5: the words of all kinds with all short rows of fields.
func TestParseAll(t *testing.T) {
	fields := []string{"0", "7", "1000001", "00", "\"\"", "\"a\"", "put", "del", "x"}
	var grow func(line string, left int)
	grow = func(line string, left int) {
		checkParse(t, line)
		for _, f := range fields {
			if left > 0 {
				grow(line+" "+f, left-1)
			}
		}
	}
	for _, name := range names {
		grow(name, 3)
		grow(name+" 0 1", 3)
	}
	grow("diff 0 1 2", 3)
	grow("batch 0 put \"a\"", 4)
	grow("batch 0 del \"a\" del \"b\"", 3)
}

// P4.6: different operations have different lines.
func TestLinesDiffer(t *testing.T) {
	some := map[string]api.OpCall{}
	d := &dice{5}
	for _, c := range append(d.calls(500), fewCalls()...) {
		line, e := ops.Print(c)
		if e != api.OK {
			t.Fatalf("Print of %s: %d", brief(c), e)
		}
		if other, ok := some[line]; ok && !same(c, other) {
			t.Errorf("%s and %s have the line %s", brief(c), brief(other), brief(line))
		}
		some[line] = c
	}
	if len(some) < 3000 {
		t.Errorf("only %d lines", len(some))
	}
}

// fewCalls returns operations that differ in one thing only.
func fewCalls() []api.OpCall {
	var l []api.OpCall
	for kind := 1; kind <= 17; kind++ {
		if kind != 3 {
			l = append(l, api.OpCall{Kind: kind}, api.OpCall{Kind: kind, Grant: 1})
		}
	}
	one := api.Handle{Index: 1}
	return append(l,
		api.OpCall{Kind: 1, Key: "a"}, api.OpCall{Kind: 1, Val: "a"}, api.OpCall{Kind: 1, Key: "a\" \"b", Val: ""}, api.OpCall{Kind: 1, Key: "a", Val: "b"}, api.OpCall{Kind: 2, Key: "a"}, api.OpCall{Kind: 2, Key: "\\x00"}, api.OpCall{Kind: 2, Key: "\x00"},
		api.OpCall{Kind: 7, Range: api.KeRange{Bound: true}}, api.OpCall{Kind: 7, Range: api.KeRange{Low: "a"}}, api.OpCall{Kind: 7, Range: api.KeRange{Low: "a", Bound: true}}, api.OpCall{Kind: 7, Range: api.KeRange{High: "a", Bound: true}},
		api.OpCall{Kind: 14, Handle: one}, api.OpCall{Kind: 14, Other: one}, api.OpCall{Kind: 14, Handle: api.Handle{Gen: 1}}, api.OpCall{Kind: 14, Other: api.Handle{Gen: 1}}, api.OpCall{Kind: 9, Handle: api.Handle{Index: 1, Gen: 11}}, api.OpCall{Kind: 9, Handle: api.Handle{Index: 11, Gen: 1}},
		api.OpCall{Kind: 3, Writes: []api.OpWrite{{}}}, api.OpCall{Kind: 3, Writes: []api.OpWrite{{Dead: true}}}, api.OpCall{Kind: 3, Writes: []api.OpWrite{{}, {}}}, api.OpCall{Kind: 3, Writes: []api.OpWrite{{Key: "a"}, {Key: "b"}}}, api.OpCall{Kind: 3, Writes: []api.OpWrite{{Key: "b"}, {Key: "a"}}}, api.OpCall{Kind: 3, Writes: []api.OpWrite{{Key: "a", Val: "b"}}}, api.OpCall{Kind: 3, Writes: []api.OpWrite{{Key: "a", Dead: true}, {Key: "b", Dead: true}}},
	)
}

// wrongCalls returns what is no operation, with each error.
func wrongCalls() []api.OpCall {
	long := repeat("k", 101)
	return []api.OpCall{
		{}, {Kind: -1}, {Kind: 18}, {Kind: 18, Grant: -1}, {Kind: 8, Grant: -1}, {Kind: 8, Grant: 1000001}, {Kind: 8, Key: "a"}, {Kind: 8, Handle: api.Handle{Gen: 1}}, {Kind: 1, Grant: 1000001, Handle: api.Handle{Index: 1}},
		{Kind: 2, Val: "x"}, {Kind: 2, Key: long}, {Kind: 1, Key: long, Val: long}, {Kind: 4, Handle: api.Handle{Index: -1}}, {Kind: 14, Other: api.Handle{Gen: 1000000001}}, {Kind: 7, Range: api.KeRange{High: "a"}}, {Kind: 10, Range: api.KeRange{Low: long}},
		{Kind: 3}, {Kind: 3, Writes: make([]api.OpWrite, 9)}, {Kind: 3, Writes: []api.OpWrite{{Val: "x", Dead: true}}}, {Kind: 3, Writes: []api.OpWrite{{Key: long}}}, {Kind: 3, Key: "a"}, {Kind: 1, Writes: make([]api.OpWrite, 1000)},
	}
}

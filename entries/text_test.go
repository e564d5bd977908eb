package entries_test

import (
	"fmt"
	"math/big"
	"regexp"
	"slices"
	"strings"
	"testing"

	"bookend/api"
	"bookend/entries"
	"bookend/words"
)

const quotedForm = `"((?:[ !#-\[\]-~]|\\["\\nrt]|\\x(?:0[0-8bcef]|1[0-9a-f]|7f|[89a-f][0-9a-f]))*)"`

var (
	lineForm = regexp.MustCompile(`\A(?:put ` + quotedForm + ` ` + quotedForm + ` (0|-?[1-9][0-9]*)|del ` + quotedForm + ` (0|-?[1-9][0-9]*))\z`)
	escape   = regexp.MustCompile(`\\x..|\\.`)
)

// unescaped returns what stands between quotes.
func unescaped(s string) string {
	return escape.ReplaceAllStringFunc(s, func(x string) string {
		if x[1] == 'x' {
			var c byte
			fmt.Sscanf(x[2:], "%02x", &c)
			return string([]byte{c})
		}
		return map[byte]string{'n': "\n", 'r': "\r", 't': "\t", '"': "\"", '\\': "\\"}[x[1]]
	})
}

// readLine is what Parse must find in a line.
func readLine(line string) (api.Entry, api.Errno) {
	m := lineForm.FindStringSubmatch(line)
	if m == nil {
		return api.Entry{}, api.ErrForm
	}
	x, digits := put(unescaped(m[1]), unescaped(m[2]), 0), m[3]
	if m[0][0] == 'd' {
		x, digits = del(unescaped(m[4]), 0), m[5]
	}
	if n, _ := new(big.Int).SetString(digits, 10); n.IsInt64() {
		x.Seq = n.Int64()
	}
	if e := errOf(x); e != api.OK {
		return api.Entry{}, e
	}
	return x, api.OK
}

// parsed is what Parse must return.
func parsed(text string) ([]api.Entry, int, api.Errno) {
	lines := strings.SplitAfter(text, "\n")
	last := lines[len(lines)-1]
	lines = lines[:len(lines)-1]
	if len(text) > 1<<20 || len(lines) > 5000 {
		return nil, 0, api.ErrLong
	}
	if last != "" {
		return nil, 0, api.ErrForm
	}
	var l []api.Entry
	for i, s := range lines {
		x, e := readLine(s[:len(s)-1])
		if e != api.OK {
			return nil, i + 1, e
		}
		l = append(l, x)
	}
	return l, 0, api.OK
}

// checkParse checks Parse, and that Print of what it returns is the text.
func checkParse(t *testing.T, text string) {
	t.Helper()
	want, line, we := parsed(text)
	l, n, e := entries.Parse(text)
	if !slices.Equal(l, want) || n != line || e != we {
		t.Fatalf("Parse of %.100q: %s, %d, %d, want %s, %d, %d", text, brief(l...), n, e, brief(want...), line, we)
	}
	if e != api.OK {
		return
	}
	if s, e := entries.Print(l); s != text || e != api.OK {
		t.Fatalf("Print of Parse of %.100q: %.100q, %d", text, s, e)
	}
}

// checkPrint checks Print, and that Parse of the text is the list.
func checkPrint(t *testing.T, l []api.Entry, want string) {
	t.Helper()
	s, e := entries.Print(l)
	if s != want || e != api.OK {
		t.Fatalf("Print of %s: %.100q, %d, want %.100q", brief(l...), s, e, want)
	}
	back, n, e := entries.Parse(s)
	if !slices.Equal(back, l) || n != 0 || e != api.OK {
		t.Fatalf("Parse of Print of %s: %s, %d, %d", brief(l...), brief(back...), n, e)
	}
}

// P3.3, Print: the example, no entries, lists in no order, and the greatest parts.
func TestPrintCases(t *testing.T) {
	for _, x := range []struct {
		l    []api.Entry
		want string
	}{
		{list(del("a", 7), put("b", "2", 6)), "del \"a\" 7\nput \"b\" \"2\" 6\n"},
		{nil, ""}, {list(), ""}, {list(put("", "", 1)), "put \"\" \"\" 1\n"}, {list(del("", 1)), "del \"\" 1\n"},
		{list(put("b", "x", 6), put("a", "", 6), put("a", "", 7), put("a", "", 6)), "put \"b\" \"x\" 6\nput \"a\" \"\" 6\nput \"a\" \"\" 7\nput \"a\" \"\" 6\n"},
		{list(put("", "a \"b\"\n", 1)), "put \"\" \"a \\\"b\\\"\\n\" 1\n"}, {list(put("a\" \"b", "\\", 10)), "put \"a\\\" \\\"b\" \"\\\\\" 10\n"}, {list(del("\\\"", 2)), "del \"\\\\\\\"\" 2\n"}, {list(put("é\t\r\x00", " ", 1)), "put \"\\xc3\\xa9\\t\\r\\x00\" \" \" 1\n"},
		{list(put(repeat("k", 32), repeat("v", 64), 1000000000)), "put \"" + repeat("k", 32) + "\" \"" + repeat("v", 64) + "\" 1000000000\n"}, {list(del(repeat("\xff", 32), 999999999)), "del \"" + repeat("\\xff", 32) + "\" 999999999\n"},
	} {
		checkPrint(t, x.l, x.want)
	}
}

// P3.3 and P3.8: every byte in keys and values, at the beginning, in between, and at the end.
func TestPrintBytes(t *testing.T) {
	for c := range 256 {
		b := string([]byte{byte(c)})
		for _, s := range []string{b, b + "a", "a" + b, "a" + b + b + "a", b + "\"", b + "\\"} {
			q := words.Quote(s)
			checkPrint(t, list(put(s, "", 1), put("", s, 2), put(s, s, 3), del(s, 4)), "put "+q+" \"\" 1\nput \"\" "+q+" 2\nput "+q+" "+q+" 3\ndel "+q+" 4\n")
		}
	}
}

// widest returns n entries whose lines have 268 bytes each.
func widest(n int) []api.Entry { return slices.Repeat(list(put("", repeat("\x00", 64), 1)), n) }

// P3.3 and P3.5: texts of 2^20 bytes, and of one more, of lists that are not too long.
func TestTextLimit(t *testing.T) {
	// 3912 lines of 268 bytes, and 100 bytes: 60 are left.
	l := append(widest(3912), put(repeat("k", 24), repeat("v", 64), 1), put("", repeat("v", 48), 1))
	s, e := entries.Print(l)
	if len(s) != 1<<20 || e != api.OK {
		t.Fatalf("Print: %d bytes, %d", len(s), e)
	}
	checkPrint(t, l, s)
	checkParse(t, s)
	last := len(l) - 1
	for _, x := range []api.Entry{put("k", l[last].Val, 1), put("", l[last].Val+"v", 1), put("", l[last].Val, 10)} {
		over := append(slices.Clone(l[:last]), x)
		if s, e := entries.Print(over); s != "" || e != api.ErrLong {
			t.Errorf("Print of one byte more: %d bytes, %d", len(s), e)
		}
	}
	for i, x := range []struct {
		l []api.Entry
		e api.Errno
	}{
		{widest(5000), api.ErrLong}, {widest(5001), api.ErrLong}, {append(widest(4999), api.Entry{}), api.ErrRange}, {append(widest(4999), api.Entry{Val: "v", Dead: true, Seq: 1}), api.ErrForm}, {numbered("", 5001), api.ErrLong},
	} {
		if s, e := entries.Print(x.l); s != "" || e != x.e {
			t.Errorf("%d: Print: %d bytes, %d, want %d", i, len(s), e, x.e)
		}
	}
	all := numbered("", 5000)
	s, _ = entries.Print(all)
	checkPrint(t, all, s)
}

// P3.5: lines that are none of an entry, or one of what is no entry, and their numbers.
func TestParseCases(t *testing.T) {
	for _, x := range []struct {
		s    string
		line int
		e    api.Errno
	}{
		{"del \"a\" 7", 0, api.ErrForm}, {"x", 0, api.ErrForm}, {"\n", 1, api.ErrForm}, {"del \"a\" 7\n\n", 2, api.ErrForm}, {"\ndel \"a\" 7\n", 1, api.ErrForm}, {"del \"a\" 7\nx", 0, api.ErrForm}, {"x\nx", 0, api.ErrForm}, {"del \"a\" 7\r\n", 1, api.ErrForm}, {"del \"a\" 7\x00\n", 1, api.ErrForm},
		{"del \"a\" 07\n", 1, api.ErrForm}, {"del \"a\" +7\n", 1, api.ErrForm}, {"del \"a\" -0\n", 1, api.ErrForm}, {"del \"a\" 7.0\n", 1, api.ErrForm}, {"del \"a\" 0x7\n", 1, api.ErrForm}, {"del \"a\" -\n", 1, api.ErrForm}, {"del \"a\" \n", 1, api.ErrForm}, {"del \"a\"\n", 1, api.ErrForm}, {"del \"a\" \"7\"\n", 1, api.ErrForm}, {"del \"a\" 7 7\n", 1, api.ErrForm}, {"del \"a\" seven\n", 1, api.ErrForm},
		{"del \"a\" 0\n", 1, api.ErrRange}, {"del \"a\" -1\n", 1, api.ErrRange}, {"del \"a\" 1000000001\n", 1, api.ErrRange}, {"del \"a\" 99999999999999999999\n", 1, api.ErrRange}, {"del \"a\" -99999999999999999999\n", 1, api.ErrRange}, {"del \"a\" 18446744073709551617\n", 1, api.ErrRange}, {"put \"a\" \"b\" 4294967297\n", 1, api.ErrRange},
		{"del a 7\n", 1, api.ErrForm}, {"del  \"a\" 7\n", 1, api.ErrForm}, {"del \"a\"  7\n", 1, api.ErrForm}, {" del \"a\" 7\n", 1, api.ErrForm}, {"del \"a\" 7 \n", 1, api.ErrForm}, {"del\t\"a\" 7\n", 1, api.ErrForm}, {"del\"a\" 7\n", 1, api.ErrForm}, {"del \"a\"7\n", 1, api.ErrForm}, {"del 7\n", 1, api.ErrForm}, {"del\n", 1, api.ErrForm}, {"del \"a\" \"b\" 7\n", 1, api.ErrForm}, {"del \"a\" \"\" 7\n", 1, api.ErrForm},
		{"put \"a\" 7\n", 1, api.ErrForm}, {"put \"a\"\"b\" 7\n", 1, api.ErrForm}, {"put \"a\" \"b\" 7 \n", 1, api.ErrForm}, {"put \"a\" b 7\n", 1, api.ErrForm}, {"put a \"b\" 7\n", 1, api.ErrForm}, {"put \"a\" \"b\"\n", 1, api.ErrForm}, {"put \"a\" \"b\" \"c\" 7\n", 1, api.ErrForm}, {"put \"a\" \"b\" \"7\"\n", 1, api.ErrForm}, {"put \"a\" 7 7\n", 1, api.ErrForm},
		{"\"put\" \"a\" \"b\" 7\n", 1, api.ErrForm}, {"\"del\" \"a\" 7\n", 1, api.ErrForm}, {"set \"a\" \"b\" 7\n", 1, api.ErrForm}, {"Put \"a\" \"b\" 7\n", 1, api.ErrForm}, {"DEL \"a\" 7\n", 1, api.ErrForm}, {"put\" \"a\" \"b\" 7\n", 1, api.ErrForm}, {"\"a\" \"b\" 7\n", 1, api.ErrForm}, {"dele \"a\" 7\n", 1, api.ErrForm}, {" \"a\" 7\n", 1, api.ErrForm},
		{"put \"\\x61\" \"b\" 7\n", 1, api.ErrForm}, {"put \"a\" \"\\xFF\" 7\n", 1, api.ErrForm}, {"put \"a\" \"\\q\" 7\n", 1, api.ErrForm}, {"del \"\xff\" 7\n", 1, api.ErrForm}, {"del \"a\nb\" 7\n", 1, api.ErrForm}, {"del \"a 7\n", 1, api.ErrForm}, {"del \"a\\\" 7\n", 1, api.ErrForm}, {"del \"\\\n", 1, api.ErrForm}, {"del \"\n", 1, api.ErrForm}, {"del 'a' 7\n", 1, api.ErrForm}, {"del `a` 7\n", 1, api.ErrForm},
		{"put \"b\" \"2\" 6\nput \"b\" \"2\" 6\nput \"b\" \"2\" 0\nx\n", 3, api.ErrRange}, {"put \"b\" \"2\" 6\nx\nput \"b\" \"2\" 0\n", 2, api.ErrForm}, {"del \"a\" 0\nx", 0, api.ErrForm},
	} {
		l, n, e := entries.Parse(x.s)
		if len(l) > 0 || n != x.line || e != x.e {
			t.Errorf("Parse of %q: %s, %d, %d, want %d, %d", x.s, brief(l...), n, e, x.line, x.e)
		}
		checkParse(t, x.s)
	}
	checkParse(t, "")
	checkParse(t, "put \"b\" \"x\" 6\nput \"a\" \"\" 6\n")
}

// P3.5: parts of any size; a line of what is no entry has the error of Check only if its form is right.
func TestParseLong(t *testing.T) {
	quoted := func(s string, n int) string { return "\"" + repeat(s, n) + "\"" }
	for _, x := range []struct {
		line string
		e    api.Errno
	}{
		{"put " + quoted("\\xff", 32) + " " + quoted("\\xff", 64) + " 1000000000", api.OK}, {"del " + quoted("\\\"", 32) + " 1", api.OK}, {"del " + quoted("\\\\", 32) + " 1", api.OK}, {"del " + quoted(" ", 32) + " 1", api.OK},
		{"del " + quoted("a", 33) + " 1", api.ErrLong}, {"del " + quoted("a", 33) + " 0", api.ErrLong}, {"put \"\" " + quoted("a", 65) + " 1", api.ErrLong}, {"put \"\" " + quoted("a", 65) + " -1", api.ErrLong}, {"put " + quoted("\\n", 33) + " " + quoted("a", 65) + " 1", api.ErrLong},
		{"del " + quoted("a", 33) + " 01", api.ErrForm}, {"del " + quoted("a", 33) + " ", api.ErrForm}, {"put " + quoted("a", 33) + " 1", api.ErrForm}, {"del " + quoted("a", 33) + " \"\" 1", api.ErrForm}, {"set " + quoted("a", 33) + " 1", api.ErrForm}, {"put \"\" " + quoted("\\xFF", 65) + " 1", api.ErrForm},
		{"del " + quoted("a", 2000) + " 1", api.ErrLong}, {"del " + quoted("a", 2001) + " 1", api.ErrLong}, {"del " + quoted("a", 2001) + " x", api.ErrForm}, {"put " + quoted("a", 2001) + " \"v\" \"w\" 1", api.ErrForm}, {"put \"k\" " + quoted("\\x00", 2001) + " 1", api.ErrLong},
		{"del " + quoted("a", 9000) + " 1", api.ErrLong}, {"del " + quoted("a", 9000) + " 1 ", api.ErrForm}, {"del " + quoted("a", 9000), api.ErrForm}, {"del \"" + repeat("a", 9000), api.ErrForm}, {"put " + quoted("\\x00", 100000) + " " + quoted("\\x00", 100000) + " 1", api.ErrLong}, {"del " + quoted("\x00", 9000) + " 1", api.ErrForm},
		{"del \"a\" 1" + repeat("0", 2000), api.ErrRange}, {"del \"a\" 1" + repeat("0", 9000), api.ErrRange}, {"del \"a\" -1" + repeat("0", 100000), api.ErrRange}, {"del \"a\" 0" + repeat("0", 9000), api.ErrForm}, {"del \"a\" 1" + repeat("0", 9000) + "x", api.ErrForm}, {"put \"a\" " + quoted("b", 65) + " 1" + repeat("0", 9000), api.ErrLong}, {"put \"a\" \"b\" " + repeat("9", 100000), api.ErrRange},
		{repeat("a ", 64), api.ErrForm}, {repeat("a ", 64) + "a", api.ErrForm}, {"put" + repeat(" \"a\"", 64) + " 1", api.ErrForm}, {repeat(" ", 9000), api.ErrForm}, {repeat("\"", 9000), api.ErrForm}, {repeat("\\", 9000), api.ErrForm}, {repeat("\"\" ", 9000), api.ErrForm}, {repeat("x", 9000), api.ErrForm},
	} {
		if _, n, e := entries.Parse(x.line + "\n"); e != x.e || n != min(int(e), 1) {
			t.Errorf("Parse of %.60q: %d, %d, want %d", x.line, n, e, x.e)
		}
		checkParse(t, x.line+"\n")
		checkParse(t, "del \"a\" 7\n"+x.line+"\nx\n")
	}
}

// P3.5: texts of 5000 lines, of 2^20 bytes, and of one more; they come before a byte 10 that is missing, and this before what is wrong in a line.
func TestParseLimits(t *testing.T) {
	good := "del \"\" 1\n"
	wide := "del \"" + repeat("a", (1<<20)-9) + "\" 1\n"
	for i, x := range []struct {
		s    string
		line int
		e    api.Errno
	}{
		{repeat(good, 5000), 0, api.OK}, {repeat(good, 5001), 0, api.ErrLong}, {repeat("x\n", 5001), 0, api.ErrLong}, {repeat("\n", 5000), 1, api.ErrForm}, {repeat("\n", 5001), 0, api.ErrLong}, {repeat(good, 5001) + "x", 0, api.ErrLong}, {repeat(good, 5000) + "x", 0, api.ErrForm}, {repeat(good, 4999) + "x", 0, api.ErrForm}, {repeat(good, 4999) + "x\n", 5000, api.ErrForm}, {repeat(good, 5000) + "x\n", 0, api.ErrLong}, {repeat(good, 4999) + "del \"\" 0\n", 5000, api.ErrRange},
		{repeat("\n", 1<<20), 0, api.ErrLong}, {repeat("x", 1<<20), 0, api.ErrForm}, {repeat("x", 1<<20+1), 0, api.ErrLong}, {repeat("x", 1<<20-1) + "\n", 1, api.ErrForm}, {repeat("x", 1<<20) + "\n", 0, api.ErrLong},
		{wide[1:], 1, api.ErrForm}, {wide, 1, api.ErrLong}, {wide + "\n", 0, api.ErrLong}, {wide + wide, 0, api.ErrLong},
	} {
		l, n, e := entries.Parse(x.s)
		if n != x.line || e != x.e || e != api.OK && len(l) > 0 {
			t.Errorf("%d: Parse: %d entries, %d, %d, want %d, %d", i, len(l), n, e, x.line, x.e)
		}
		checkParse(t, x.s)
	}
}

// P3.5 and P3.8: all lines that are one change away from one of an entry.
func TestParseNear(t *testing.T) {
	for _, line := range []string{"del \"a\" 7\n", "put \"b\" \"2\" 16\n", "put \"\" \"a \\\"b\\\" \\n\\x00\" 1\n", "del \"\\\\\" -10\n"} {
		for at := range len(line) {
			checkParse(t, line[:at]+line[at+1:])
			checkParse(t, line[:at])
			checkParse(t, line[at:])
			for c := range 256 {
				b := string([]byte{byte(c)})
				checkParse(t, line[:at]+b+line[at:])
				checkParse(t, line[:at]+b+line[at+1:])
				checkParse(t, "del \"a\" 7\n"+line[:at]+b+line[at+1:]+"put\n")
			}
		}
	}
}

// P3.5 and P3.8: all short rows of parts of lines.
func TestParseAll(t *testing.T) {
	parts := []string{"put", "del", " ", "\"a\"", "\"", "\\", "7", "0", "-", "\n"}
	var grow func(s string, left int)
	grow = func(s string, left int) {
		checkParse(t, s)
		checkParse(t, s+"\n")
		checkParse(t, "put \"k\" "+s+"\n")
		checkParse(t, "del "+s+" 7\n")
		for _, p := range parts {
			if left > 0 {
				grow(s+p, left-1)
			}
		}
	}
	grow("", 4)
}

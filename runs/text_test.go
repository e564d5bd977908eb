package runs_test

import (
	"fmt"
	"math/big"
	"regexp"
	"slices"
	"strings"
	"testing"

	"bookend/api"
	"bookend/entries"
	"bookend/runs"
	"bookend/words"
)

var headForm = regexp.MustCompile(`\Arun (0|-?[1-9][0-9]*)\n`)

// parsed is what Parse must return.
func parsed(text string) (api.Run, int, api.Errno) {
	if len(text) >= 1<<20+1 {
		return api.Run{}, 0, api.ErrLong
	}
	m := headForm.FindStringSubmatch(text)
	if m == nil {
		return api.Run{}, 1, api.ErrForm
	}
	n, _ := new(big.Int).SetString(m[1], 10)
	if n.Sign() <= 0 || n.Cmp(big.NewInt(1e6)) > 0 {
		return api.Run{}, 1, api.ErrRange
	}
	l, line, e := entries.Parse(text[len(m[0]):])
	if e != api.OK && line > 0 {
		return api.Run{}, 1 + line, e
	}
	if e != api.OK {
		return api.Run{}, 0, e
	}
	r := run(int(n.Int64()), l...)
	if at, e := runErr(r); e != api.OK {
		return api.Run{}, 2 + at, e
	}
	return r, 0, api.OK
}

// printed is the text of a run, however long it is.
func printed(r api.Run) string {
	var text strings.Builder
	fmt.Fprintf(&text, "run %d\n", r.Id)
	for _, x := range r.Entries {
		if x.Dead {
			fmt.Fprintf(&text, "del %s %d\n", words.Quote(x.Key), x.Seq)
		} else {
			fmt.Fprintf(&text, "put %s %s %d\n", words.Quote(x.Key), words.Quote(x.Val), x.Seq)
		}
	}
	return text.String()
}

// checkParse checks Parse, and that Print of what it returns is the text.
func checkParse(t *testing.T, text string) {
	t.Helper()
	want, line, we := parsed(text)
	r, n, e := runs.Parse(text)
	if !sameRun(r, want) || n != line || e != we {
		t.Fatalf("Parse of %.200q: %s, %d, %d, want %s, %d, %d", text, brief(r), n, e, brief(want), line, we)
	}
	if e != api.OK {
		return
	}
	if s, e := runs.Print(r); s != text || e != api.OK {
		t.Fatalf("Print of Parse of %.200q: %.200q, %d", text, s, e)
	}
}

// checkPrint checks Print, and that Parse of the text is the run.
func checkPrint(t *testing.T, r api.Run) {
	t.Helper()
	want := printed(r)
	s, e := runs.Print(r)
	if len(want) > 1<<20 {
		checkOne(t, "Print", len(s), e, 0, api.ErrLong, r)
		return
	}
	if s != want || e != api.OK {
		t.Fatalf("Print of %s: %.200q, %d, want %.200q", brief(r), s, e, want)
	}
	back, n, e := runs.Parse(s)
	if !sameRun(back, r) || n != 0 || e != api.OK {
		t.Fatalf("Parse of Print of %s: %s, %d, %d", brief(r), brief(back), n, e)
	}
}

// P8.5 and P8.8, Print: runs of all kinds, and with all ids.
func TestPrint(t *testing.T) {
	for _, r := range someRuns() {
		checkPrint(t, r)
	}
	for _, id := range append(someIds(), 99, 100, 9999, 10000, 123456) {
		checkPrint(t, run(id))
		checkPrint(t, run(id, del("c", 5), put("d", "v", 6)))
	}
	for c := range 256 {
		b := string([]byte{byte(c)})
		checkPrint(t, run(c+1, put(b, b, 1), del(b+b, 1e9), put(b+b+"\"", b+"\\"+b, 10)))
	}
	for _, c := range []struct {
		r    api.Run
		want string
	}{
		{run(1), "run 1\n"}, {run(1e6), "run 1000000\n"}, {run(7, del("c", 5)), "run 7\ndel \"c\" 5\n"}, {example(), "run 7\nput \"a\" \"1\" 1\ndel \"c\" 2\nput \"e\" \"3\" 3\n"}, {run(65536, put("", "\x00 \"", 1e9)), "run 65536\nput \"\" \"\\x00 \\\"\" 1000000000\n"},
	} {
		s, e := runs.Print(c.r)
		checkOne(t, "Print", s, e, c.want, api.OK, c.r)
	}
}

// sized returns a run whose text has so many bytes.
func sized(id, size int) api.Run {
	r := run(id)
	left := size - len(fmt.Sprintf("run %d\n", id))
	for i := 0; left > 0; i++ {
		// A line has 272 bytes at most, and 16 without a value; 16 bytes have to be left for the last one, if there is one.
		x, val := put(fmt.Sprintf("%04d", i), "", 1), left-16
		switch {
		case left >= 272+16:
			x.Val, val = repeat("\x00", 64), 256
		case left > 80:
			val = min(64, left-32)
			x.Val = repeat("v", val)
		default:
			x.Val = repeat("v", val)
		}
		r.Entries = append(r.Entries, x)
		left -= 16 + val
	}
	return r
}

// P8.5: texts of 2^20 bytes, and of more; those whose entries alone have a text that is not too long, and others.
func TestTextLimit(t *testing.T) {
	for _, id := range []int{1, 1e6} {
		head := len(fmt.Sprintf("run %d\n", id))
		for _, more := range []int{-2, -1, 0, 1, 2, head - 1, head, head + 1, head + 2, 1000} {
			r := sized(id, 1<<20+more)
			if n := len(printed(r)); n != 1<<20+more {
				t.Fatalf("the text has %d bytes", n)
			}
			checkPrint(t, r)
			checkParse(t, printed(r))
			// Both limits are tried: that of the whole text, and that of the text of the entries.
			if _, e := entries.Print(r.Entries); (e == api.OK) != (more <= head) {
				t.Errorf("entries.Print of %d bytes: %d", 1<<20+more-head, e)
			}
		}
	}
	// The id alone may make it too long.
	r := sized(9, 1<<20)
	checkPrint(t, r)
	r.Id = 10
	s, e := runs.Print(r)
	checkOne(t, "Print", s, e, "", api.ErrLong)
	s, e = runs.Print(run(0, r.Entries...))
	checkOne(t, "Print", s, e, "", api.ErrRange)
	wide := sized(1, 1<<20+1)
	wide.Entries[len(wide.Entries)-1].Seq = 0
	s, e = runs.Print(wide)
	checkOne(t, "Print", s, e, "", api.ErrRange)
}

// P8.5, Parse: what the first line may be, what the rest may be, and where an error is.
func TestParseCases(t *testing.T) {
	good := "del \"c\" 5\n"
	for _, c := range []struct {
		s    string
		line int
		e    api.Errno
	}{
		{"run 7\n" + good, 0, api.OK}, {"run 1\n", 0, api.OK}, {"run 1000000\n", 0, api.OK}, {"run 7\n" + good + "put \"d\" \"v\" 6\n", 0, api.OK},
		{"", 1, api.ErrForm}, {"\n", 1, api.ErrForm}, {"r", 1, api.ErrForm}, {"run", 1, api.ErrForm}, {"run\n", 1, api.ErrForm}, {"run \n", 1, api.ErrForm}, {"run 7", 1, api.ErrForm}, {"run 0", 1, api.ErrForm}, {"run 7 ", 1, api.ErrForm}, {"run 7\r\n", 1, api.ErrForm}, {"7\n", 1, api.ErrForm}, {" 7\n", 1, api.ErrForm},
		{"run 07\n", 1, api.ErrForm}, {"run +7\n", 1, api.ErrForm}, {"run -0\n", 1, api.ErrForm}, {"run 00\n", 1, api.ErrForm}, {"run -07\n", 1, api.ErrForm}, {"run --7\n", 1, api.ErrForm}, {"run 7.0\n", 1, api.ErrForm}, {"run 0x7\n", 1, api.ErrForm}, {"run 1_0\n", 1, api.ErrForm}, {"run 1e3\n", 1, api.ErrForm}, {"run seven\n", 1, api.ErrForm}, {"run \"7\"\n", 1, api.ErrForm}, {"run -\n", 1, api.ErrForm},
		{"run  7\n", 1, api.ErrForm}, {" run 7\n", 1, api.ErrForm}, {"run 7 \n", 1, api.ErrForm}, {"run\t7\n", 1, api.ErrForm}, {"run7\n", 1, api.ErrForm}, {"Run 7\n", 1, api.ErrForm}, {"RUN 7\n", 1, api.ErrForm}, {"runs 7\n", 1, api.ErrForm}, {"\"run\" 7\n", 1, api.ErrForm}, {"run 7 7\n", 1, api.ErrForm}, {"run 7\x00\n", 1, api.ErrForm}, {"\nrun 7\n", 1, api.ErrForm}, {"run\n7\n", 1, api.ErrForm},
		{"run 0\n", 1, api.ErrRange}, {"run -1\n", 1, api.ErrRange}, {"run 1000001\n", 1, api.ErrRange}, {"run 4294967297\n", 1, api.ErrRange}, {"run 18446744073709551617\n", 1, api.ErrRange}, {"run -99999999999999999999\n", 1, api.ErrRange}, {"run 1" + repeat("0", 9000) + "\n", 1, api.ErrRange}, {"run -7" + repeat("0", 9000) + "\n", 1, api.ErrRange}, {"run 0" + repeat("0", 9000) + "\n", 1, api.ErrForm},
		{"run 0\nx", 1, api.ErrRange}, {"run 0\nx\n", 1, api.ErrRange}, {"run 07\nx\n", 1, api.ErrForm}, {"run x\n" + good, 1, api.ErrForm}, {good, 1, api.ErrForm}, {good + "run 7\n", 1, api.ErrForm},
		{"run 7\ndel \"c\" 5", 0, api.ErrForm}, {"run 7\n" + good + "x", 0, api.ErrForm}, {"run 7\nx\nx", 0, api.ErrForm}, {"run 7\n\n", 2, api.ErrForm}, {"run 7\nx\n", 2, api.ErrForm}, {"run 7\n" + good + "\n", 3, api.ErrForm}, {"run 7\nrun 8\n", 2, api.ErrForm}, {"run 7\n" + good + "run 8\n" + good, 3, api.ErrForm}, {"run 7\n" + good + "del \"d\" 05\n", 3, api.ErrForm},
		{"run 7\ndel \"c\" 0\n", 2, api.ErrRange}, {"run 7\n" + good + "del \"d\" 0\n", 3, api.ErrRange}, {"run 7\n" + good + "del \"d\" 1000000001\n", 3, api.ErrRange}, {"run 7\ndel \"" + repeat("k", 33) + "\" 5\n", 2, api.ErrLong}, {"run 7\n" + good + "put \"d\" \"" + repeat("v", 65) + "\" 5\n", 3, api.ErrLong},
		{"run 7\n" + good + good, 3, api.ErrForm}, {"run 7\n" + good + "del \"b\" 6\n", 3, api.ErrForm}, {"run 7\n" + good + "del \"d\" 6\ndel \"d\" 7\n", 4, api.ErrForm}, {"run 7\n" + good + "put \"c\" \"v\" 6\n", 3, api.ErrForm}, {"run 7\ndel \"\\x80\" 5\ndel \"~\" 5\n", 3, api.ErrForm},
		// What is wrong in a line comes before keys that do not ascend.
		{"run 7\n" + good + good + "x\n", 4, api.ErrForm}, {"run 7\n" + good + good + "del \"d\" 0\n", 4, api.ErrRange}, {"run 7\n" + good + good + "x", 0, api.ErrForm}, {"run 0\n" + good + good, 1, api.ErrRange},
	} {
		r, n, e := runs.Parse(c.s)
		if n != c.line || e != c.e || e != api.OK && !sameRun(r, api.Run{}) {
			t.Errorf("Parse of %.200q: %s, %d, %d, want %d, %d", c.s, brief(r), n, e, c.line, c.e)
		}
		checkParse(t, c.s)
	}
}

// linesOf returns the text of a run with these keys, with the id 7.
func linesOf(keys []string) string { return printed(keyed(7, keys...)) }

// P8.5, Parse: texts of 5000 entries, of 2^20 bytes, and of one more; where the whole text is wrong, the line is 0.
func TestParseLimits(t *testing.T) {
	full := numbered(5001)
	widest, wide := printed(sized(7, 1<<20)), printed(sized(7, 1<<20-1))
	for i, c := range []struct {
		s    string
		line int
		e    api.Errno
	}{
		{linesOf(full[:4999]), 0, api.OK}, {linesOf(full[:5000]), 0, api.OK}, {linesOf(full), 0, api.ErrLong}, {linesOf(full[:5000]) + "x", 0, api.ErrForm}, {linesOf(full) + "x", 0, api.ErrLong}, {linesOf(full[:5000]) + "x\n", 0, api.ErrLong}, {linesOf(full[:4999]) + "x\n", 5001, api.ErrForm},
		{linesOf(append(slices.Clone(full[:4999]), full[0])), 5001, api.ErrForm}, {linesOf(append(slices.Clone(full[1:5000]), full[4999])), 5001, api.ErrForm}, {linesOf(append(slices.Clone(full[:4999]), repeat("\xff", 33))), 5001, api.ErrLong}, {"run 0" + linesOf(full)[5:], 1, api.ErrRange}, {"run x" + linesOf(full)[5:], 1, api.ErrForm}, {"run 7\n" + repeat("\n", 5000), 2, api.ErrForm}, {"run 7\n" + repeat("\n", 5001), 0, api.ErrLong},
		{repeat("x", 1<<20), 1, api.ErrForm}, {repeat("x", 1<<20+1), 0, api.ErrLong}, {repeat("\n", 1<<20), 1, api.ErrForm}, {repeat("\n", 1<<20+1), 0, api.ErrLong}, {"run 7\n" + repeat("x", 1<<20-6), 0, api.ErrForm}, {"run 7\n" + repeat("x", 1<<20-5), 0, api.ErrLong}, {"run 7\n" + repeat("x", 1<<20-7) + "\n", 2, api.ErrForm}, {"run 7\n" + repeat("x", 1<<20-6) + "\n", 0, api.ErrLong},
		{"run " + repeat("9", 1<<20-5) + "\n", 1, api.ErrRange}, {"run " + repeat("9", 1<<20-4), 1, api.ErrForm}, {"run " + repeat("9", 1<<20-4) + "\n", 0, api.ErrLong}, {widest, 0, api.OK}, {widest + "\n", 0, api.ErrLong}, {wide + "\n", strings.Count(wide, "\n") + 1, api.ErrForm},
	} {
		r, n, e := runs.Parse(c.s)
		if n != c.line || e != c.e || e != api.OK && !sameRun(r, api.Run{}) {
			t.Errorf("%d: Parse: %s, %d, %d, want %d, %d", i, brief(r), n, e, c.line, c.e)
		}
		checkParse(t, c.s)
	}
}

// P8.5 and P8.8: all texts that are one change away from one of a run.
func TestParseNear(t *testing.T) {
	for _, text := range []string{"run 7\n", "run 1000000\n", "run -10\n", "run 7\ndel \"c\" 5\n", "run 16\nput \"b\" \"2\" 16\ndel \"c\" 2\n"} {
		for at := range len(text) {
			checkParse(t, text[:at])
			checkParse(t, text[at:])
			checkParse(t, text[:at]+text[at+1:])
			for c := range 256 {
				b := string([]byte{byte(c)})
				checkParse(t, text[:at]+b+text[at:])
				checkParse(t, text[:at]+b+text[at+1:])
			}
		}
	}
}

// P8.5 and P8.8: all short rows of parts of texts.
func TestParseAll(t *testing.T) {
	parts := []string{"run", " ", "7", "0", "-", "\n", "\"a\"", "del \"b\" 7\n", "del \"a\" 7\n"}
	var grow func(s string, left int)
	grow = func(s string, left int) {
		checkParse(t, s)
		checkParse(t, s+"\n")
		checkParse(t, "run 7\n"+s)
		checkParse(t, "run "+s+"\n")
		for _, p := range parts {
			if left > 0 {
				grow(s+p, left-1)
			}
		}
	}
	grow("", 4)
}

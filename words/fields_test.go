package words_test

import (
	"regexp"
	"slices"
	"testing"

	"bookend/api"
	"bookend/words"
)

const (
	bareForm   = `[!#-\[\]-~]+`
	quotedOnly = `"(?:[ !#-\[\]-~]|\\["\\nrt]|\\x(?:0[0-8bcef]|1[0-9a-f]|7f|[89a-f][0-9a-f]))*"`
	fieldForm  = `(?:` + bareForm + `|` + quotedOnly + `)`
)

var (
	lineForm  = regexp.MustCompile(`\A(?:` + fieldForm + `(?: ` + fieldForm + `)*)?\z`)
	fieldOnly = regexp.MustCompile(fieldForm)
)

// split is what Split must return, by regular expressions.
func split(line string) ([]api.Field, api.Errno) {
	if len(line) > 8192 {
		return nil, api.ErrLong
	}
	if !lineForm.MatchString(line) {
		return nil, api.ErrForm
	}
	var l []api.Field
	for _, w := range fieldOnly.FindAllString(line, -1) {
		f := bare(w)
		if w[0] == '"' {
			s, _ := unquoted(w)
			f = quoted(s)
		}
		if len(f.S) > 2000 {
			return nil, api.ErrLong
		}
		l = append(l, f)
	}
	if len(l) > 64 {
		return nil, api.ErrLong
	}
	return l, api.OK
}

// checkSplit checks P1.3, and, of P1.7, that Join of Split is the line.
func checkSplit(t *testing.T, line string) {
	t.Helper()
	want, we := split(line)
	got, e := words.Split(line)
	if e != we || !slices.Equal(got, want) {
		t.Errorf("Split(%q): %v, %d, want %v, %d", short(line), got, e, want, we)
	}
	if e != api.OK {
		return
	}
	if s, e := words.Join(got); s != line || e != api.OK {
		t.Errorf("Join of Split(%q): %q, %d", short(line), short(s), e)
	}
}

// P1.3: the examples, and lines with each kind of fields.
func TestSplitCases(t *testing.T) {
	for line, want := range map[string][]api.Field{
		`get / "a b"`: {bare("get"), bare("/"), quoted("a b")}, ``: nil, `a`: {bare("a")}, `""`: {quoted("")}, `"" ""`: {quoted(""), quoted("")},
		`a "a" a`: {bare("a"), quoted("a"), bare("a")}, `" "`: {quoted(" ")}, `"\"" b`: {quoted("\""), bare("b")}, `"\\" b`: {quoted("\\"), bare("b")},
		`"\n\r\t\x00\xff"`: {quoted("\n\r\t\x00\xff")}, `- -1 a,b 'x' #`: {bare("-"), bare("-1"), bare("a,b"), bare("'x'"), bare("#")}, `! ~`: {bare("!"), bare("~")},
	} {
		if l, e := words.Split(line); !slices.Equal(l, want) || e != api.OK {
			t.Errorf("Split(%s): %v, %d", line, l, e)
		}
	}
	for _, line := range []string{
		"a  b", " ", "  ", " a", "a ", "a b ", "a\tb", "a\n", "\n", "a\\", "\\", "a\"", "a\"b\"", "\"a\"b", "\"a\"\"b\"", "\"", "\"a", "a \"b", "\"a\" ", " \"a\"", "\"\\\"", "\"\\x41\"", "\"\\x0A\" a", "a \"\\q\"", "é", "a\x00", "a\x7f", "\"\n\"", "\"\x80\"",
	} {
		l, e := words.Split(line)
		wantErr(t, line, e, api.ErrForm, len(l) == 0)
	}
}

// P1.3 and P1.7: all short lines, and every byte beside a field and within it.
func TestSplitAll(t *testing.T) {
	for line := range spelled(chars("a \"\\n\x7f\n"), 6) {
		checkSplit(t, line)
	}
	for c := range 256 {
		b := string([]byte{byte(c)})
		for _, line := range []string{b, "a" + b, b + "a", "a" + b + "a", "a " + b, b + " a", "\"a\"" + b, b + "\"a\"", "\"" + b + "\"", "a \"" + b + "\" a", "\"\\" + b + "\""} {
			checkSplit(t, line)
		}
	}
}

// P1.3: the limits of 8192, 64 and 2000, just kept and just broken, and which error counts first.
func TestSplitLimits(t *testing.T) {
	full := repeat(repeat("a", 2000)+" ", 4)
	for i, x := range []struct {
		line string
		e    api.Errno
	}{
		{full + repeat("a", 188), api.OK}, {full + repeat("a", 189), api.ErrLong}, {full + repeat(" ", 188), api.ErrForm}, {repeat(" ", 8192), api.ErrForm}, {repeat(" ", 8193), api.ErrLong}, {repeat("a", 8192), api.ErrLong}, {repeat("\"", 1<<20), api.ErrLong},
		{repeat("a ", 63) + "a", api.OK}, {repeat("a ", 64) + "a", api.ErrLong}, {repeat("a ", 64), api.ErrForm}, {repeat("a ", 64) + " a", api.ErrForm}, {repeat("a ", 64) + "\"", api.ErrForm}, {repeat("a ", 65) + "\"\\x41\"", api.ErrForm},
		{repeat("\"\" ", 63) + "\"\"", api.OK}, {repeat("\"\" ", 64) + "\"\"", api.ErrLong}, {repeat("a ", 4095) + "a", api.ErrLong}, {repeat("a ", 4096), api.ErrForm},
		{repeat("a", 2000), api.OK}, {repeat("a", 2001), api.ErrLong}, {"b " + repeat("a", 2001) + " b", api.ErrLong}, {repeat("a", 2001) + " ", api.ErrForm}, {repeat("a", 2001) + " \"", api.ErrForm}, {repeat("a", 2001) + "\x00", api.ErrForm},
		{"\"" + repeat("a", 2000) + "\"", api.OK}, {"\"" + repeat("a", 2001) + "\"", api.ErrLong}, {"\"" + repeat("\\x00", 2000) + "\"", api.OK}, {"\"" + repeat("\\x00", 2001) + "\"", api.ErrLong}, {"\"" + repeat("\\n", 2001) + "\"", api.ErrLong}, {"\"" + repeat("a", 2001), api.ErrForm},
	} {
		l, e := words.Split(x.line)
		wantErr(t, "Split "+words.Digits(int64(i))+" of "+x.line, e, x.e, len(l) == 0)
		checkSplit(t, x.line)
	}
}

// join is what Join must return.
func join(l []api.Field) (string, api.Errno) {
	for _, f := range l {
		if len(f.S) > 2000 {
			return "", api.ErrLong
		}
	}
	if len(l) > 64 {
		return "", api.ErrLong
	}
	line := ""
	for _, f := range l {
		w := f.S
		if f.Quoted {
			w = quotedForm(f.S)
		} else if !regexp.MustCompile(`\A` + bareForm + `\z`).MatchString(w) {
			return "", api.ErrForm
		}
		line += " " + w
	}
	if len(line) > 8193 {
		return "", api.ErrLong
	}
	if line == "" {
		return "", api.OK
	}
	return line[1:], api.OK
}

// checkJoin checks P1.4, and, of P1.7, that Split of Join are the fields.
func checkJoin(t *testing.T, l []api.Field) {
	t.Helper()
	want, we := join(l)
	got, e := words.Join(l)
	if got != want || e != we {
		t.Errorf("Join(%.60v): %q, %d, want %q, %d", l, short(got), e, short(want), we)
	}
	if e != api.OK {
		return
	}
	if back, e := words.Split(got); !slices.Equal(back, l) || e != api.OK {
		t.Errorf("Split of Join: %.60v, %d, want %.60v", back, e, l)
	}
}

// P1.4: lines of each kind of fields, and every byte in both kinds.
func TestJoinCases(t *testing.T) {
	for want, l := range map[string][]api.Field{
		`get / "a b"`: {bare("get"), bare("/"), quoted("a b")}, ``: {}, `""`: {quoted("")}, `a "a"`: {bare("a"), quoted("a")}, `"\"" "\x00"`: {quoted("\""), quoted("\x00")},
	} {
		if line, e := words.Join(l); line != want || e != api.OK {
			t.Errorf("Join(%v): %q, %d, want %q", l, line, e, want)
		}
	}
	for _, s := range []string{"", " ", "a b", "a ", "\"", "a\"b", "\\", "\n", "\x7f", "é"} {
		for _, l := range [][]api.Field{{bare(s)}, {bare("a"), bare(s)}, {bare(s), quoted("a")}} {
			line, e := words.Join(l)
			wantErr(t, "Join with the bare field "+s, e, api.ErrForm, line == "")
		}
	}
	for c := range 256 {
		for _, s := range []string{string([]byte{byte(c)}), string([]byte{'a', byte(c)}), string([]byte{byte(c), 'a'})} {
			checkJoin(t, []api.Field{bare(s)})
			checkJoin(t, []api.Field{quoted(s), bare("b"), quoted(s)})
		}
	}
}

// P1.4 and P1.7: all lists of at most four of these fields.
func TestJoinAll(t *testing.T) {
	some := []api.Field{bare("a"), bare("-/'x'"), quoted(""), quoted("a b"), quoted("\"\\\n\x00\xff"), bare(""), bare("a b")}
	var grow func(l []api.Field)
	grow = func(l []api.Field) {
		checkJoin(t, l)
		for _, f := range some {
			if len(l) < 4 {
				grow(append(slices.Clip(l), f))
			}
		}
	}
	grow(nil)
}

// P1.4: the limits of 64, 2000 and 8192, just kept and just broken, and which error counts first.
func TestJoinLimits(t *testing.T) {
	long := bare(repeat("a", 2000))
	longest := quoted(repeat("\x00", 2000)) // 8002 bytes as it is written
	over := bare(repeat("a", 2001))
	for i, x := range []struct {
		l []api.Field
		e api.Errno
	}{
		{times(64, bare("a")), api.OK}, {times(65, bare("a")), api.ErrLong}, {times(64, quoted("")), api.OK}, {times(65, quoted("")), api.ErrLong}, {times(65, bare("")), api.ErrLong}, {append(times(64, bare("a")), bare(" ")), api.ErrLong},
		{[]api.Field{long}, api.OK}, {[]api.Field{over}, api.ErrLong}, {[]api.Field{quoted(long.S)}, api.OK}, {[]api.Field{quoted(over.S)}, api.ErrLong}, {[]api.Field{bare(""), over}, api.ErrLong}, {[]api.Field{over, bare("")}, api.ErrLong}, {[]api.Field{bare(repeat(" ", 2001))}, api.ErrLong}, {[]api.Field{bare(repeat(" ", 2000))}, api.ErrForm},
		{append(times(4, long), bare(repeat("a", 188))), api.OK}, {append(times(4, long), bare(repeat("a", 189))), api.ErrLong}, {times(5, long), api.ErrLong}, {append(times(5, long), bare("")), api.ErrForm}, {append([]api.Field{bare("a b")}, times(5, long)...), api.ErrForm},
		{[]api.Field{longest}, api.OK}, {[]api.Field{longest, bare(repeat("a", 189))}, api.OK}, {[]api.Field{longest, bare(repeat("a", 190))}, api.ErrLong}, {[]api.Field{longest, quoted(repeat("a", 187))}, api.OK}, {[]api.Field{longest, quoted(repeat("a", 188))}, api.ErrLong}, {[]api.Field{longest, longest}, api.ErrLong}, {[]api.Field{longest, longest, bare("\n")}, api.ErrForm},
	} {
		line, e := words.Join(x.l)
		wantErr(t, "Join "+words.Digits(int64(i)), e, x.e, line == "")
		checkJoin(t, x.l)
	}
}

// P1.8: joining two lists with a space between both lines is joining both together, up to the limits.
func TestJoinTogether(t *testing.T) {
	lists := [][]api.Field{
		{bare("a")}, {quoted("")}, {bare("get"), bare("/"), quoted("a b")}, {quoted("\x00\""), bare("~")}, times(30, bare("x")), times(34, quoted("y")), times(64, bare("z")),
		{bare(repeat("a", 2000))}, {bare(repeat("b", 2000)), quoted(repeat("\n", 1500))}, {quoted(repeat("\x00", 1500))},
	}
	together := 0
	for _, a := range lists {
		for _, b := range lists {
			la, ea := words.Join(a)
			lb, eb := words.Join(b)
			if ea != api.OK || eb != api.OK {
				t.Fatalf("Join: %d, %d", ea, eb)
			}
			fits := len(a)+len(b) <= 64 && len(la)+1+len(lb) <= 8192
			line, e := words.Join(append(slices.Clone(a), b...))
			if fits && (line != la+" "+lb || e != api.OK) || !fits && (line != "" || e != api.ErrLong) {
				t.Errorf("Join of %d and %d fields: %q, %d", len(a), len(b), short(line), e)
			}
			if fits {
				together++
			}
		}
	}
	if together < 30 {
		t.Errorf("only %d pairs fit", together)
	}
}

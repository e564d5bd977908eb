package words_test

import (
	"slices"
	"strings"
	"testing"

	"bookend/api"
	"bookend/words"
)

// P1.5: texts, and those that do not end with a line feed.
func TestLinesCases(t *testing.T) {
	for text, want := range map[string][]string{
		"": nil, "\n": {""}, "a\n": {"a"}, "a\nb\n": {"a", "b"}, "\n\n": {"", ""}, "a\n\nb\n": {"a", "", "b"}, "\na\n": {"", "a"}, "a\r\n b \x00\xff\n": {"a\r", " b \x00\xff"}, "\r\n": {"\r"},
	} {
		if l, e := words.Lines(text); !slices.Equal(l, want) || e != api.OK {
			t.Errorf("Lines(%q): %q, %d", text, l, e)
		}
	}
	for _, text := range []string{"a", "a\nb", "\na", " ", "\r", "a\r", "\n\x00"} {
		l, e := words.Lines(text)
		wantErr(t, "Lines "+text, e, api.ErrForm, len(l) == 0)
	}
}

// P1.5: all short texts; the lines of an accepted one, each with a line feed, are the text.
func TestLinesAll(t *testing.T) {
	for text := range spelled(chars("a\n\r "), 6) {
		l, e := words.Lines(text)
		if text != "" && !strings.HasSuffix(text, "\n") {
			wantErr(t, "Lines "+text, e, api.ErrForm, len(l) == 0)
			continue
		}
		whole := ""
		for _, s := range l {
			if strings.Contains(s, "\n") {
				t.Errorf("Lines(%q): %q", text, l)
			}
			whole += s + "\n"
		}
		if whole != text || e != api.OK {
			t.Errorf("Lines(%q): %q, %d", text, l, e)
		}
	}
}

// P1.5: the limits of 2^20 and 5000, just kept and just broken, and which error counts first.
func TestLinesLimits(t *testing.T) {
	for i, x := range []struct {
		text string
		n    int
		e    api.Errno
	}{
		{repeat("x", 1<<20-1) + "\n", 1, api.OK}, {repeat("x", 1<<20) + "\n", 0, api.ErrLong}, {repeat("x", 1<<20), 0, api.ErrForm}, {repeat("x", 1<<20+1), 0, api.ErrLong}, {"\n" + repeat("x", 1<<20-2) + "\n", 2, api.OK},
		{repeat("\n", 5000), 5000, api.OK}, {repeat("\n", 5001), 0, api.ErrLong}, {repeat("ab\n", 5000), 5000, api.OK}, {repeat("ab\n", 5001), 0, api.ErrLong}, {repeat("\n", 5000) + "x", 0, api.ErrForm}, {repeat("\n", 5001) + "x", 0, api.ErrForm}, {repeat("\n", 4999) + "x\n", 5000, api.OK},
		{repeat("\n", 1<<20), 0, api.ErrLong}, {repeat("\n", 1<<20-1) + "x", 0, api.ErrForm}, {repeat(repeat("y", 208)+"\n", 5000), 5000, api.OK},
	} {
		l, e := words.Lines(x.text)
		if len(l) != x.n || e != x.e {
			t.Errorf("Lines %d: %d lines, %d, want %d, %d", i, len(l), e, x.n, x.e)
		}
	}
}

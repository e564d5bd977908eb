package words_test

import (
	"fmt"
	"strings"
	"testing"

	"bookend/api"
	"bookend/words"
)

// escaped is how the byte c is written between quotes.
func escaped(c byte) string {
	switch {
	case c == '"':
		return "\\\""
	case c == '\\':
		return "\\\\"
	case c == 10:
		return "\\n"
	case c == 13:
		return "\\r"
	case c == 9:
		return "\\t"
	case c < 32 || c > 126:
		return fmt.Sprintf("\\x%02x", c)
	}
	return string([]byte{c})
}

// quotedForm is the quoted form of s.
func quotedForm(s string) string {
	b := []string{"\""}
	for i := range len(s) {
		b = append(b, escaped(s[i]))
	}
	return strings.Join(append(b, "\""), "")
}

// unquoted is the string whose quoted form is s. It tries each byte in turn: no form of one begins with that of another.
func unquoted(s string) (string, bool) {
	if len(s) < 2 || s[0] != '"' || s[len(s)-1] != '"' {
		return "", false
	}
	body, out := s[1:len(s)-1], ""
	for body != "" {
		n := len(out)
		for c := range 256 {
			if w := escaped(byte(c)); strings.HasPrefix(body, w) {
				out, body = out+string([]byte{byte(c)}), body[len(w):]
				break
			}
		}
		if len(out) == n {
			return "", false
		}
	}
	return out, true
}

func checkUnquote(t *testing.T, s string) {
	t.Helper()
	want, ok := unquoted(s)
	got, e := words.Unquote(s)
	if ok && (got != want || e != api.OK) || !ok && (got != "" || e != api.ErrForm) {
		t.Errorf("Unquote(%q): %q, %d, want %q, %v", s, got, e, want, ok)
	}
}

// P1.2: the examples, and the forms that are none.
func TestQuoteCases(t *testing.T) {
	for s, want := range map[string]string{
		"a\n\x00\"": `"a\n\x00\""`, "": `""`, "a b": `"a b"`, "\"": `"\""`, "\\": `"\\"`, "\n\r\t": `"\n\r\t"`, "\\n": `"\\n"`, "\\x00": `"\\x00"`,
		"\x1f ~\x7f": `"\x1f ~\x7f"`, "\x80\xff": `"\x80\xff"`, "é": `"\xc3\xa9"`, "\a\b\f\v\x1b": `"\x07\x08\x0c\x0b\x1b"`, "'`": "\"'`\"",
	} {
		if got := words.Quote(s); got != want {
			t.Errorf("Quote(%q): %s, want %s", s, got, want)
		}
		if got, e := words.Unquote(want); got != s || e != api.OK {
			t.Errorf("Unquote(%s): %q, %d", want, got, e)
		}
	}
	for _, s := range []string{
		`"\x41"`, `"\x7F"`, `"a`, `a"`, `a`, ``, `"`, `"""`, `"a"b`, `"a"b"`, ` "a"`, `"a" `, `"a""b"`, `"\"`, `"\`, `"\x"`, `"\x0"`, `"\x0`, `"\x`, `"\xg0"`, `"\x0g"`, `"\X00"`, `"\x0A"`,
		`"\x0a"`, `"\x0d"`, `"\x09"`, `"\x22"`, `"\x5c"`, `"\x20"`, `"\x7e"`, `"\a"`, `"\0"`, `"\'"`, `"\u0041"`, "\"\n\"", "\"\t\"", "\"\x00\"", "\"\x7f\"", "\"\x80\"", "\"é\"", `'a'`, "`a`",
	} {
		if got, e := words.Unquote(s); got != "" || e != api.ErrForm {
			t.Errorf("Unquote(%q): %q, %d", s, got, e)
		}
	}
}

// P1.2 and P1.7: every byte alone, and every two bytes, there and back.
func TestQuoteBytes(t *testing.T) {
	for a := range 256 {
		for b := -1; b < 256; b++ {
			s := string([]byte{byte(a), byte(b)})
			if b < 0 {
				s = s[:1]
			}
			q := words.Quote(s)
			if q != quotedForm(s) {
				t.Fatalf("Quote(%q): %s", s, q)
			}
			if got, e := words.Unquote(q); got != s || e != api.OK {
				t.Fatalf("Unquote(%s): %q, %d", q, got, e)
			}
		}
	}
}

// P1.2: every byte between quotes, behind a backslash, and each two as digits.
func TestUnquoteBytes(t *testing.T) {
	for a := range 256 {
		c := string([]byte{byte(a)})
		for _, s := range []string{c, "\"" + c + "\"", "\"\\" + c + "\"", "\"\\" + c, "\"a" + c, c + "a\"", "\"a\"" + c, "\"\\x0" + c} {
			checkUnquote(t, s)
		}
		for b := range 256 {
			checkUnquote(t, "\"\\x"+c+string([]byte{byte(b)})+"\"")
		}
	}
}

// P1.2 and P1.7: all short strings between quotes and without; a string that is accepted is the quoted form of what is returned.
func TestUnquoteAll(t *testing.T) {
	letters := chars("\"\\xn0af4A \n\x7f")
	for s := range spelled(letters, 4) {
		checkUnquote(t, s)
		checkUnquote(t, "\""+s+"\"")
		if got, e := words.Unquote("\"" + s + "\""); e == api.OK && words.Quote(got) != "\""+s+"\"" {
			t.Fatalf("Quote(%q): %s", got, words.Quote(got))
		}
	}
}

// P1.2: strings of any length, longer than every limit.
func TestQuoteLong(t *testing.T) {
	for _, n := range []int{api.MaxField, api.MaxField + 1, api.MaxLine + 1, api.MaxText + 1} {
		for _, s := range []string{noise(n), repeat("a", n), repeat("\x00", n)} {
			q := words.Quote(s)
			if q != quotedForm(s) {
				t.Errorf("Quote of %d bytes is not the quoted form", n)
			}
			if got, e := words.Unquote(q); got != s || e != api.OK {
				t.Errorf("Unquote of %d bytes: %d bytes, %d", len(q), len(got), e)
			}
			if got, e := words.Unquote(q[:len(q)-1]); got != "" || e != api.ErrForm {
				t.Errorf("Unquote without its last quote: %d bytes, %d", len(got), e)
			}
		}
	}
}

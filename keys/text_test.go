package keys_test

import (
	"fmt"
	"regexp"
	"strconv"
	"strings"
	"testing"
	"unicode/utf8"

	"bookend/api"
	"bookend/keys"
)

// shownOf is the text of a key of any length, by decoding one rune after the other.
func shownOf(k string) string {
	var out strings.Builder
	for k != "" {
		r, size := utf8.DecodeRuneInString(k)
		switch encoded := !(r == utf8.RuneError && size == 1); {
		case r == '\\':
			out.WriteString(`\\`)
		case encoded && (r >= ' ' && r <= '~' || r >= 0xa0):
			out.WriteString(k[:size])
		default:
			for _, c := range []byte(k[:size]) {
				fmt.Fprintf(&out, `\x%02x`, c)
			}
		}
		k = k[size:]
	}
	return out.String()
}

var escape = regexp.MustCompile(`\\\\|\\x[0-9a-f][0-9a-f]`)

// readOf is what Read must return: the key that shows as s.
func readOf(s string) (string, api.Errno) {
	k := escape.ReplaceAllStringFunc(s, func(x string) string {
		if x == `\\` {
			return `\`
		}
		c, _ := strconv.ParseUint(x[2:], 16, 8)
		return string([]byte{byte(c)})
	})
	switch {
	case len(s) > 128:
		return "", api.ErrLong
	case shownOf(k) != s:
		return "", api.ErrForm
	case len(k) > 32:
		return "", api.ErrLong
	}
	return k, api.OK
}

// checkText checks Show of a key, and that Read of it is the key.
func checkText(t *testing.T, k, want string) {
	t.Helper()
	s, e := keys.Show(k)
	if s != want || e != api.OK {
		t.Fatalf("Show of %q: %q, %d, want %q", k, s, e, want)
	}
	if got, e := keys.Read(s); got != k || e != api.OK {
		t.Fatalf("Read of %q: %q, %d, want %q", s, got, e, k)
	}
}

// checkRead checks Read of s, and that Show of a key that it returns is s.
func checkRead(t *testing.T, s string) {
	t.Helper()
	want, we := readOf(s)
	k, e := keys.Read(s)
	if k != want || e != we {
		t.Fatalf("Read of %q: %q, %d, want %q, %d", s, k, e, want, we)
	}
	if e != api.OK {
		return
	}
	if got, e := keys.Show(k); got != s || e != api.OK {
		t.Fatalf("Show of %q: %q, %d, want %q", k, got, e, s)
	}
}

// P2.4, Show: the example, and each kind of runes and bytes.
func TestShowCases(t *testing.T) {
	for _, x := range [][2]string{
		{"é\xc3\\\n", `é\xc3\\\x0a`},
		{"", ""}, {"abc 1~", "abc 1~"}, {`"'`, `"'`}, {`\`, `\\`}, {`\\`, `\\\\`}, {`\x61`, `\\x61`},
		{"\x00\t\r\x1f \x7e\x7f", `\x00\x09\x0d\x1f ~\x7f`},
		{"\u0080\u009f\u00a0\u00ad", "\\xc2\\x80\\xc2\\x9f\u00a0\u00ad"},
		{"\x80\x9f\xa0\xbf\xff", `\x80\x9f\xa0\xbf\xff`},
		{"é\xa9", `é\xa9`}, {"\xc3é", `\xc3é`}, {"\xc3a", `\xc3a`}, {"a\xe2\x82", `a\xe2\x82`}, {"€\xe2\x82€", `€\xe2\x82€`},
		{"𝄞\xf0\x9d\x84", `𝄞\xf0\x9d\x84`}, {"\u2028\u200b\ufeff", "\u2028\u200b\ufeff"},
		{"\ufffd", "\ufffd"}, {"\ufffd\xff\ufffd", "\ufffd\\xff\ufffd"}, {"\xef\xbf", `\xef\xbf`},
		{"\xed\xa0\x80", `\xed\xa0\x80`}, {"\xc0\x80", `\xc0\x80`}, {"\xf4\x90\x80\x80", `\xf4\x90\x80\x80`}, {"\U0010ffff", "\U0010ffff"}, {"\ud7ff\ue000", "\ud7ff\ue000"},
		{top, repeat(`\xff`, 32)}, {repeat("a", 32), repeat("a", 32)}, {repeat(`\`, 32), repeat(`\\`, 32)}, {repeat("é", 16), repeat("é", 16)},
	} {
		checkText(t, x[0], x[1])
	}
	for _, k := range []string{tooLong, repeat("\x00", 33), repeat("é", 17), repeat("a", 1<<20)} {
		if s, e := keys.Show(k); s != "" || e != api.ErrLong {
			t.Errorf("Show of %d bytes: %q, %d", len(k), s, e)
		}
	}
}

// P2.4 and P2.8: all keys of two bytes, all keys of four bytes that begin, go on or end runes, and every rune.
func TestShowAll(t *testing.T) {
	for _, k := range allOf(everyByte(), 2) {
		checkText(t, k, shownOf(k))
	}
	for _, k := range allOf("\n\\xa0\x7f\x80\x9f\xa0\xbf\xc2\xc3\xed\xef\xf0\xf4\xff", 4) {
		checkText(t, k, shownOf(k))
	}
	for r := rune(0); r <= utf8.MaxRune; r++ {
		if k := string(r); utf8.ValidRune(r) {
			checkText(t, k, shownOf(k))
		}
	}
}

// P2.4, Read: texts that are no string of a key, and which error comes first.
func TestReadCases(t *testing.T) {
	for _, x := range []struct {
		s, k string
		e    api.Errno
	}{
		{`\x61`, "", api.ErrForm}, {`\xC3`, "", api.ErrForm}, {`\`, "", api.ErrForm},
		{"", "", api.OK}, {`\xc3`, "\xc3", api.OK}, {`\\`, `\`, api.OK}, {`\\x61`, `\x61`, api.OK}, {`\x0a\x7f`, "\n\x7f", api.OK}, {"é€𝄞", "é€𝄞", api.OK}, {`é\xc3\\\x0a`, "é\xc3\\\n", api.OK}, {"\ufffd", "\ufffd", api.OK},
		{`a\`, "", api.ErrForm}, {`\\\`, "", api.ErrForm}, {`\x`, "", api.ErrForm}, {`\x0`, "", api.ErrForm}, {`\xc`, "", api.ErrForm}, {`a\x`, "", api.ErrForm}, {`\c3`, "", api.ErrForm}, {`\n`, "", api.ErrForm}, {`\X0a`, "", api.ErrForm}, {`\0a`, "", api.ErrForm}, {`\a`, "", api.ErrForm}, {`\u00e9`, "", api.ErrForm}, {`\"`, "", api.ErrForm},
		{`\x0A`, "", api.ErrForm}, {`\xfF`, "", api.ErrForm}, {`\xFf`, "", api.ErrForm}, {`\xg0`, "", api.ErrForm}, {`\x0g`, "", api.ErrForm}, {`\x 0`, "", api.ErrForm}, {`\x-1`, "", api.ErrForm}, {`\x+1`, "", api.ErrForm}, {`\x0x`, "", api.ErrForm}, {"\\x0\x00", "", api.ErrForm},
		{`\x20`, "", api.ErrForm}, {`\x7e`, "", api.ErrForm}, {`\x5c`, "", api.ErrForm}, {`\x30`, "", api.ErrForm},
		{`\xc3\xa9`, "", api.ErrForm}, {`\xe2\x82\xac`, "", api.ErrForm}, {`\xef\xbf\xbd`, "", api.ErrForm}, {`\xc2\xa0`, "", api.ErrForm}, {`\xc2\x9f`, "\u009f", api.OK}, {"\\xc3\xa9", "", api.ErrForm}, {"\xc3\\xa9", "", api.ErrForm},
		{"\n", "", api.ErrForm}, {"\x00", "", api.ErrForm}, {"\x1f", "", api.ErrForm}, {"\x7f", "", api.ErrForm}, {"\u0080", "", api.ErrForm}, {"\u009f", "", api.ErrForm}, {"\x80", "", api.ErrForm}, {"\xff", "", api.ErrForm}, {"\xc3", "", api.ErrForm}, {"a\n", "", api.ErrForm},
	} {
		k, e := keys.Read(x.s)
		checkString(t, "Read", []string{x.s}, k, e, x.k, x.e)
	}
}

// P2.4, Read: texts of 128 and of 129 bytes, and of keys of 32 and of 33 bytes; more than 128 bytes come before the form, this before the length of the key.
func TestReadLong(t *testing.T) {
	for _, x := range []struct {
		s, k string
		e    api.Errno
	}{
		{repeat(`\xff`, 32), top, api.OK}, {repeat("a", 32), repeat("a", 32), api.OK}, {repeat(`\\`, 32), repeat(`\`, 32), api.OK}, {repeat("é", 16), repeat("é", 16), api.OK},
		{repeat(`\xff`, 31) + "a", top[:31] + "a", api.OK},
		{repeat("a", 33), "", api.ErrLong}, {repeat(`\\`, 33), "", api.ErrLong}, {repeat("é", 17), "", api.ErrLong}, {repeat("a", 31) + "é", "", api.ErrLong}, {repeat(`\xff`, 31) + "ab", "", api.ErrLong}, {repeat(`\xff`, 31) + "abcd", "", api.ErrLong},
		{repeat("a", 128), "", api.ErrLong}, {repeat("a", 129), "", api.ErrLong}, {repeat(`\xff`, 32) + "a", "", api.ErrLong}, {repeat(`\xff`, 33), "", api.ErrLong}, {repeat("a", 1<<20), "", api.ErrLong},
		{repeat("a", 127) + `\`, "", api.ErrForm}, {repeat("a", 128) + `\`, "", api.ErrLong}, {repeat("a", 127) + "\n", "", api.ErrForm}, {repeat("\n", 128), "", api.ErrForm}, {repeat("\n", 129), "", api.ErrLong},
		{repeat(`\x61`, 32), "", api.ErrForm}, {repeat(`\x61`, 33), "", api.ErrLong}, {repeat(`\xFF`, 32), "", api.ErrForm}, {repeat("a", 33) + `\x6`, "", api.ErrForm}, {`\` + repeat("a", 127), "", api.ErrForm},
	} {
		k, e := keys.Read(x.s)
		checkString(t, "Read", []string{x.s}, k, e, x.k, x.e)
	}
}

// P2.4 and P2.8: all short strings, every byte at each place of an escape, all escapes of two bytes, and all short rows of parts that change each other.
func TestReadAll(t *testing.T) {
	for _, s := range allOf("\\x06cfF\n\x80\xa9\xc3", 5) {
		checkRead(t, s)
	}
	for _, c := range everyByteAlone() {
		for _, s := range []string{c, `\` + c, `\` + c + "00", `\x` + c, `\x` + c + "0", `\x0` + c, c + `\x00`, `\x00` + c, `\xc3` + c, `\\` + c} {
			checkRead(t, s)
		}
	}
	for a := range 256 {
		for b := range 256 {
			checkRead(t, fmt.Sprintf(`\x%02x\x%02x`, a, b))
			checkRead(t, fmt.Sprintf(`\x%02X\x%02x`, a, b))
		}
	}
	parts := []string{`\`, `\\`, "x", "c3", `\xc3`, `\xa9`, "é", "\xc3", "\xa9", `\x61`, `\x0a`, `\xef`, `\xbf`, `\xbd`, "\ufffd", "\n", "\u0085", `\x`}
	for _, row := range allOf("\x00\x01\x02\x03\x04\x05\x06\x07\x08\x09\x0a\x0b\x0c\x0d\x0e\x0f\x10\x11", 4) {
		var s strings.Builder
		for _, i := range []byte(row) {
			s.WriteString(parts[i])
		}
		checkRead(t, s.String())
	}
}

// everyByteAlone returns each byte as a string.
func everyByteAlone() []string { return allOf(everyByte(), 1)[1:] }

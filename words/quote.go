package words

import (
	"strings"

	"bookend/api"
)

// An escape is a byte, and the letter that is written for it behind a backslash.
type escape struct{ raw, letter byte }

// escapes has the bytes with a letter of their own; the others that have to be escaped are written as \x and two digits.
var escapes = [5]escape{{'"', '"'}, {'\\', '\\'}, {'\n', 'n'}, {'\r', 'r'}, {'\t', 't'}}

const hexDigits = "0123456789abcdef"

// Quote returns the quoted form of s.
func Quote(s string) string {
	out := []byte{'"'}
	for i := range len(s) {
		out = appendByte(out, s[i])
	}
	return string(append(out, '"'))
}

// Unquote returns the string whose quoted form is s.
func Unquote(s string) (string, api.Errno) {
	text, end, ok := readQuoted(s, 0)
	if !ok || end < len(s) {
		return "", api.ErrForm
	}
	return text, api.OK
}

// appendByte appends c as it is written between quotes.
func appendByte(out []byte, c byte) []byte {
	if isPlain(c) {
		return append(out, c)
	}
	if letter, ok := letterOf(c); ok {
		return append(out, '\\', letter)
	}
	return append(out, '\\', 'x', hexDigits[c>>4], hexDigits[c&15])
}

// readQuoted reads the quoted form that begins at s[at], and returns its string and the place after it.
func readQuoted(s string, at int) (string, int, bool) {
	if at >= len(s) || s[at] != '"' {
		return "", 0, false
	}
	var text []byte
	at++
	for at < len(s) && s[at] != '"' {
		c, next, ok := readByte(s, at)
		if !ok {
			return "", 0, false
		}
		text = append(text, c)
		at = next
	}
	if at >= len(s) {
		return "", 0, false
	}
	return string(text), at + 1, true
}

// readByte reads the byte that is written from s[at] on, and returns it and the place after it.
func readByte(s string, at int) (byte, int, bool) {
	if s[at] != '\\' {
		return s[at], at + 1, isPlain(s[at])
	}
	if at+1 >= len(s) {
		return 0, 0, false
	}
	if s[at+1] == 'x' {
		c, ok := readHex(s[at+2:])
		return c, at + 4, ok
	}
	c, ok := rawOf(s[at+1])
	return c, at + 2, ok
}

// readHex reads the byte whose two digits s begins with.
func readHex(s string) (byte, bool) {
	if len(s) < 2 {
		return 0, false
	}
	high, low := strings.IndexByte(hexDigits, s[0]), strings.IndexByte(hexDigits, s[1])
	if high < 0 || low < 0 {
		return 0, false
	}
	c := byte(high<<4 | low)
	// A string has one quoted form only: no digits for a byte that has a shorter form.
	_, short := letterOf(c)
	return c, !short && !isPlain(c)
}

// isPlain reports whether c stands for itself between quotes.
func isPlain(c byte) bool {
	return c >= ' ' && c <= '~' && c != '"' && c != '\\'
}

// letterOf returns the letter that is written for c.
func letterOf(c byte) (byte, bool) {
	for _, e := range escapes {
		if e.raw == c {
			return e.letter, true
		}
	}
	return 0, false
}

// rawOf returns the byte for which the letter is written.
func rawOf(letter byte) (byte, bool) {
	for _, e := range escapes {
		if e.letter == letter {
			return e.raw, true
		}
	}
	return 0, false
}

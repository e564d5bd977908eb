package keys

import (
	"strings"

	"bookend/api"
)

// maxShown is how many bytes the text of a key has at most: each of its bytes becomes at most a backslash, an x and two digits.
const maxShown = 4 * api.MaxKey

const hexDigits = "0123456789abcdef"

// Show returns the text of the key.
func Show(k string) (string, api.Errno) {
	if e := Check(k); e != api.OK {
		return "", e
	}
	return textOf(k), api.OK
}

// Read returns the key whose text is s.
func Read(s string) (string, api.Errno) {
	if len(s) > maxShown {
		return "", api.ErrLong
	}
	k, ok := unescaped(s)
	// A key has one text only: what reads as k, but is written in another way, is no text.
	if !ok || textOf(k) != s {
		return "", api.ErrForm
	}
	if e := Check(k); e != api.OK {
		return "", e
	}
	return k, api.OK
}

// textOf returns the text of a key of any length.
func textOf(k string) string {
	var out []byte
	for i, r := range k {
		out = appendRune(out, r, k[i:])
	}
	return string(out)
}

// appendRune appends the text of the rune r, which was found where the rest begins.
func appendRune(out []byte, r rune, rest string) []byte {
	encoded := string(r)
	switch {
	case !strings.HasPrefix(rest, encoded):
		// A byte that is no part of an encoded rune is found as U+FFFD too.
		return appendHex(out, rest[:1])
	case r == '\\':
		return append(out, '\\', '\\')
	case r >= 0x20 && r <= 0x7e, r >= 0xa0:
		return append(out, encoded...)
	}
	return appendHex(out, encoded)
}

// appendHex appends each byte of s as \x and two digits.
func appendHex(out []byte, s string) []byte {
	for i := range len(s) {
		out = append(out, '\\', 'x', hexDigits[s[i]>>4], hexDigits[s[i]&15])
	}
	return out
}

// unescaped returns what s stands for, and whether each backslash in it begins an escape.
func unescaped(s string) (string, bool) {
	var k []byte
	for s != "" {
		c, size, ok := readByte(s)
		if !ok {
			return "", false
		}
		k = append(k, c)
		s = s[size:]
	}
	return string(k), true
}

// readByte returns the byte that is written where s begins, and how many bytes of s it takes.
func readByte(s string) (byte, int, bool) {
	if s[0] != '\\' {
		return s[0], 1, true
	}
	if strings.HasPrefix(s, `\\`) {
		return '\\', 2, true
	}
	if !strings.HasPrefix(s, `\x`) || len(s) < 4 {
		return 0, 0, false
	}
	high, low := strings.IndexByte(hexDigits, s[2]), strings.IndexByte(hexDigits, s[3])
	if high < 0 || low < 0 {
		return 0, 0, false
	}
	return byte(high<<4 | low), 4, true
}

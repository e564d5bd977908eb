package words_test

import (
	"strings"
	"testing"

	"bookend/api"
)

// spelled yields all strings of at most most letters of the alphabet.
func spelled(alphabet []string, most int) func(func(string) bool) {
	return func(yield func(string) bool) {
		var grow func(s string, left int) bool
		grow = func(s string, left int) bool {
			if !yield(s) {
				return false
			}
			for _, a := range alphabet {
				if left > 0 && !grow(s+a, left-1) {
					return false
				}
			}
			return true
		}
		grow("", most)
	}
}

// chars returns each byte of s as a string.
func chars(s string) []string {
	var l []string
	for i := range len(s) {
		l = append(l, s[i:i+1])
	}
	return l
}

// noise returns n bytes in which all bytes occur, the same ones each time.
func noise(n int) string {
	b := make([]byte, n)
	x := uint32(1)
	for i := range b {
		x = x*1664525 + 1013904223
		b[i] = byte(x >> 24)
	}
	return string(b)
}

func bare(s string) api.Field   { return api.Field{S: s} }
func quoted(s string) api.Field { return api.Field{S: s, Quoted: true} }

// times returns n fields, all alike.
func times(n int, f api.Field) []api.Field {
	var l []api.Field
	for range n {
		l = append(l, f)
	}
	return l
}

// short returns s, or its beginning, for messages.
func short(s string) string {
	if len(s) > 60 {
		return s[:60] + ".."
	}
	return s
}

// wantErr checks an error, and that there is no other result beside it.
func wantErr(t *testing.T, call string, got, want api.Errno, empty bool) {
	t.Helper()
	if got != want {
		t.Errorf("%s: error %d, want %d", short(call), got, want)
	}
	if got != api.OK && !empty {
		t.Errorf("%s: error %d, but there is another result", short(call), got)
	}
}

// repeat is strings.Repeat with a shorter name.
func repeat(s string, n int) string { return strings.Repeat(s, n) }

package keys_test

import (
	"math/big"
	"slices"
	"strings"
	"testing"

	"bookend/api"
)

// edges has the bytes at which the order of keys could go wrong: the least two, two letters, the greatest one of ASCII and the next one, the greatest two.
const edges = "\x00\x01ab\x7f\x80\xfe\xff"

var (
	top     = repeat("\xff", 32) // the greatest key
	tooLong = repeat("a", 33)
)

// repeat is strings.Repeat with a shorter name.
func repeat(s string, n int) string { return strings.Repeat(s, n) }

// allOf returns all strings of at most most of the letters, the shorter ones first.
func allOf(letters string, most int) []string {
	l := []string{""}
	for at := 0; at < len(l) && len(l[at]) < most; at++ {
		for i := range len(letters) {
			l = append(l, l[at]+letters[i:i+1])
		}
	}
	return l
}

// everyByte returns a string of all 256 bytes, ascending.
func everyByte() string {
	var l []byte
	for c := range 256 {
		l = append(l, byte(c))
	}
	return string(l)
}

// longKeys returns keys of 30 to 32 bytes: one beginning, and then each of the endings.
func longKeys() []string {
	var l []string
	for _, begin := range []string{repeat("a", 30), repeat("\x00", 30), repeat("\xff", 30), repeat("a", 15) + repeat("\xff", 15), "b" + repeat("\xff", 29)} {
		for _, end := range allOf(edges, 2) {
			l = append(l, begin+end)
		}
	}
	return l
}

// someKeys returns short keys and long ones.
func someKeys() []string {
	return append(allOf(edges, 2), longKeys()...)
}

// someRanges returns all ranges of the keys: without Bound, and with it, also those that have no keys.
func someRanges(l []string) []api.KeRange {
	var out []api.KeRange
	for _, low := range l {
		out = append(out, from(low))
		for _, high := range l {
			out = append(out, upTo(low, high))
		}
	}
	return out
}

func from(low string) api.KeRange       { return api.KeRange{Low: low} }
func upTo(low, high string) api.KeRange { return api.KeRange{Low: low, High: high, Bound: true} }

// orderOf compares two keys as lists of bytes.
func orderOf(a, b string) int { return slices.Compare([]byte(a), []byte(b)) }

// commonOf counts beginnings of a with which b begins too.
func commonOf(a, b string) int {
	n := 0
	for n < len(a) && strings.HasPrefix(b, a[:n+1]) {
		n++
	}
	return n
}

// after returns the least key that is greater than k: as a number of 32 bytes, it is one more, and the zeros at its end are left out.
func after(k string) (string, bool) {
	if len(k) < 32 {
		return k + "\x00", true
	}
	n := new(big.Int).SetBytes([]byte(k))
	n.Add(n, big.NewInt(1))
	if n.BitLen() > 256 {
		return "", false
	}
	return strings.TrimRight(string(n.FillBytes(make([]byte, 32))), "\x00"), true
}

// before returns the greatest key that is less than k, which is not empty: it has no zero at its end, or a last byte that is less by one, and then bytes 255.
func before(k string) string {
	last := len(k) - 1
	if k[last] == 0 {
		return k[:last]
	}
	return k[:last] + string([]byte{k[last] - 1}) + top[len(k):]
}

// checkString checks a string and an error.
func checkString(t *testing.T, call string, args []string, got string, e api.Errno, want string, we api.Errno) {
	t.Helper()
	if got != want || e != we {
		t.Errorf("%s of %q: %q, %d, want %q, %d", call, args, got, e, want, we)
	}
}

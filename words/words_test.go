package words_test

import (
	"fmt"
	"math"
	"math/big"
	"regexp"
	"strings"
	"testing"

	"bookend/api"
	"bookend/words"
)

// P1.1, Name: the examples and the limit of 16.
func TestNameCases(t *testing.T) {
	for s, want := range map[string]bool{
		"web-1": true, "Web": false, "abcdefghijklmnopq": false,
		"a": true, "z": true, "a-": true, "a--": true, "z9": true, "a0-": true,
		"": false, "-": false, "-a": false, "0": false, "9a": false, "A": false, "aB": false,
		"a b": false, " a": false, "a ": false, "a\n": false, "\na": false, "a\x00": false, "a_b": false, "a.b": false, "é": false, "aé": false, "a\xff": false,
		repeat("a", 16): true, repeat("a", 17): false, "a" + repeat("-", 15): true, "a" + repeat("9", 16): false, repeat("a", 1<<20): false,
	} {
		if got := words.Name(s); got != want {
			t.Errorf("Name(%q): %v", short(s), got)
		}
	}
}

// P1.1, Name: every byte at the first, a middle and the last place.
func TestNameBytes(t *testing.T) {
	form := regexp.MustCompile(`\A[a-z][a-z0-9-]{0,15}\z`)
	for c := range 256 {
		b := string([]byte{byte(c)})
		for _, s := range []string{b, b + "a", "a" + b, "a" + b + "a", repeat("a", 15) + b, repeat("a", 14) + b + "a"} {
			if got := words.Name(s); got != form.MatchString(s) {
				t.Errorf("Name(%q): %v", s, got)
			}
		}
	}
	for s := range spelled(chars("az`{09/:-AZ_"), 3) {
		if got := words.Name(s); got != form.MatchString(s) {
			t.Errorf("Name(%q): %v", s, got)
		}
	}
}

// intOf is what Int must return, by integers of any size.
func intOf(s string, low, high int64) (int64, api.Errno) {
	n, ok := new(big.Int).SetString(s, 10)
	if !ok || n.String() != s {
		return 0, api.ErrForm
	}
	if n.Cmp(big.NewInt(low)) < 0 || n.Cmp(big.NewInt(high)) > 0 {
		return 0, api.ErrRange
	}
	return n.Int64(), api.OK
}

func checkInt(t *testing.T, s string, low, high int64) {
	t.Helper()
	n, e := words.Int(s, low, high)
	if wn, we := intOf(s, low, high); n != wn || e != we {
		t.Errorf("Int(%q, %d, %d): %d, %d, want %d, %d", short(s), low, high, n, e, wn, we)
	}
}

// P1.1, Int: the examples, each form that is none, and that the form counts before the range.
func TestIntCases(t *testing.T) {
	for _, x := range []struct {
		s         string
		low, high int64
		n         int64
		e         api.Errno
	}{
		{"007", 0, 10, 0, api.ErrForm}, {"-0", 0, 10, 0, api.ErrForm}, {"12", 0, 10, 0, api.ErrRange},
		{"0", 0, 0, 0, api.OK}, {"0", 1, 5, 0, api.ErrRange}, {"10", 0, 10, 10, api.OK}, {"11", 0, 10, 0, api.ErrRange},
		{"-5", -5, 5, -5, api.OK}, {"-6", -5, 5, 0, api.ErrRange}, {"3", 3, 3, 3, api.OK}, {"3", 4, 2, 0, api.ErrRange}, {"3", 3, 2, 0, api.ErrRange},
		{"", 0, 10, 0, api.ErrForm}, {"-", -10, 10, 0, api.ErrForm}, {"+1", 0, 10, 0, api.ErrForm}, {"--1", -9, 9, 0, api.ErrForm}, {"1-", 0, 10, 0, api.ErrForm},
		{"00", 0, 10, 0, api.ErrForm}, {"-01", -10, 10, 0, api.ErrForm}, {"01", 5, 10, 0, api.ErrForm}, {" 1", 0, 10, 0, api.ErrForm}, {"1 ", 0, 10, 0, api.ErrForm}, {"1\n", 0, 10, 0, api.ErrForm},
		{"1_0", 0, 99, 0, api.ErrForm}, {"0x1", 0, 99, 0, api.ErrForm}, {"1e1", 0, 99, 0, api.ErrForm}, {"1.0", 0, 99, 0, api.ErrForm}, {"٣", 0, 99, 0, api.ErrForm}, {"x", 5, 2, 0, api.ErrForm},
		{"9223372036854775807", math.MinInt64, math.MaxInt64, math.MaxInt64, api.OK}, {"9223372036854775808", math.MinInt64, math.MaxInt64, 0, api.ErrRange},
		{"-9223372036854775808", math.MinInt64, math.MaxInt64, math.MinInt64, api.OK}, {"-9223372036854775809", math.MinInt64, math.MaxInt64, 0, api.ErrRange},
		{"18446744073709551617", 0, 10, 0, api.ErrRange}, {repeat("9", 5000), math.MinInt64, math.MaxInt64, 0, api.ErrRange}, {"-" + repeat("1", 5000), math.MinInt64, math.MaxInt64, 0, api.ErrRange},
		{"0" + repeat("9", 5000), math.MinInt64, math.MaxInt64, 0, api.ErrForm}, {repeat("9", 5000) + "x", math.MinInt64, math.MaxInt64, 0, api.ErrForm},
	} {
		if n, e := words.Int(x.s, x.low, x.high); n != x.n || e != x.e {
			t.Errorf("Int(%q, %d, %d): %d, %d, want %d, %d", short(x.s), x.low, x.high, n, e, x.n, x.e)
		}
	}
}

// P1.1, Int: all short strings, and every byte at every place of a short one.
func TestIntAll(t *testing.T) {
	for s := range spelled(chars("-+0129/: "), 4) {
		checkInt(t, s, -10, 100)
		checkInt(t, s, math.MinInt64, math.MaxInt64)
	}
	for c := range 256 {
		b := string([]byte{byte(c)})
		for _, s := range []string{b, b + "1", "1" + b, "-" + b, "1" + b + "1"} {
			checkInt(t, s, -1000, 1000)
		}
	}
}

// P1.1, Digits, and P1.7: Int of Digits is the number, and Digits of Int the form.
func TestDigits(t *testing.T) {
	l := []int64{0, 1, -1, 9, 10, -10, 42, math.MaxInt64, math.MinInt64, math.MaxInt32, math.MinInt32, math.MaxInt64 - 1, math.MinInt64 + 1}
	for p := int64(1); p <= 1e18 && p > 0; p *= 10 {
		l = append(l, p-1, p, p+1, -p-1, -p, 1-p)
	}
	for _, n := range l {
		s := words.Digits(n)
		if s != fmt.Sprint(n) {
			t.Errorf("Digits(%d): %s", n, s)
		}
		if got, e := words.Int(s, n, n); got != n || e != api.OK {
			t.Errorf("Int(%s): %d, %d", s, got, e)
		}
	}
	for s := range spelled(chars("-0129+"), 4) {
		if n, e := words.Int(s, math.MinInt64, math.MaxInt64); e == api.OK && words.Digits(n) != s {
			t.Errorf("Digits of Int(%s): %s", s, words.Digits(n))
		}
	}
	if strings.ContainsAny(words.Digits(1234567), "+,_ ") {
		t.Error("Digits has more than digits")
	}
}

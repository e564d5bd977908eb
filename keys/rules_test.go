package keys_test

import (
	"slices"
	"testing"

	"bookend/api"
	"bookend/keys"
)

// A result is what a function returned beside its error; those that it does not have are zero.
type result struct {
	call string
	s    string
	n    int
	yes  bool
	r    api.KeRange
	e    api.Errno
}

// resultsOf calls each function with two strings, which may be no keys, and with ranges of them, which may be none.
func resultsOf(a, b string) []result {
	var l []result
	note := func(x result) { l = append(l, x) }
	note(result{call: "Check", e: keys.Check(a)})
	s, e := keys.Next(a)
	note(result{call: "Next", s: s, e: e})
	s, e = keys.Past(a)
	note(result{call: "Past", s: s, e: e})
	s, e = keys.Show(a)
	note(result{call: "Show", s: s, e: e})
	s, e = keys.Read(a)
	note(result{call: "Read", s: s, e: e})
	s, e = keys.Between(a, b)
	note(result{call: "Between", s: s, e: e})
	n, e := keys.Compare(a, b)
	note(result{call: "Compare", n: n, e: e})
	n, e = keys.Common(a, b)
	note(result{call: "Common", n: n, e: e})
	r, e := keys.Of(a)
	note(result{call: "Of", r: r, e: e})
	for _, r := range []api.KeRange{from(a), upTo(a, b), {Low: a, High: b}} {
		note(result{call: "CheckRange", e: keys.CheckRange(r)})
		yes, e := keys.In(r, b)
		note(result{call: "In", yes: yes, e: e})
		yes, e = keys.Empty(r)
		note(result{call: "Empty", yes: yes, e: e})
		m, e := keys.Meet(r, upTo(b, a))
		note(result{call: "Meet", r: m, e: e})
	}
	return l
}

// oddStrings returns strings of all kinds and lengths: keys, texts, and what is neither.
func oddStrings() []string {
	l := []string{"", `\`, `\\`, `\x`, `\x0`, `\x00`, `\xff`, "é", "\u0085", "\ufffd", "a\xff", tooLong, top, top + "\xff", top[:31]}
	for c := range 256 {
		l = append(l, string([]byte{byte(c)}), `\`+string([]byte{byte(c)}))
	}
	for _, n := range []int{31, 32, 33, 127, 128, 129, 1 << 20} {
		l = append(l, repeat("a", n), repeat("\x00", n), repeat("\xff", n), repeat(`\`, n), repeat("é", n), repeat(`\xff`, n))
	}
	return l
}

// P1 (R1, R6) and P2.8: all arguments are accepted, and the same ones give the same results again.
func TestAllArguments(t *testing.T) {
	l := oddStrings()
	first := make([][]result, len(l))
	for i, a := range l {
		first[i] = resultsOf(a, l[len(l)-1-i])
	}
	for i, a := range slices.Backward(l) {
		if again := resultsOf(a, l[len(l)-1-i]); !slices.Equal(again, first[i]) {
			t.Errorf("%.40q: %v, and again %v", a, first[i], again)
		}
	}
}

// P1 (R2): with an error, every other result is zero.
func TestZeroWithError(t *testing.T) {
	l := oddStrings()
	seen := map[string]bool{}
	for i, a := range l {
		for _, b := range []string{"", "a", a, tooLong, l[len(l)-1-i]} {
			for _, x := range resultsOf(a, b) {
				if x.e != api.OK && x != (result{call: x.call, e: x.e}) {
					t.Errorf("%.40q, %.40q: %+v", a, b, x)
				}
				seen[x.call] = seen[x.call] || x.e != api.OK
			}
		}
	}
	for call, failed := range seen {
		if !failed {
			t.Errorf("%s had no error", call)
		}
	}
}

// P2.3 and P1 (R8): what Meet and Of return is a range, and without Bound it has no High.
func TestResultsAreRanges(t *testing.T) {
	l := oddStrings()
	for i, a := range l {
		for _, x := range resultsOf(a, l[len(l)-1-i]) {
			if e := keys.CheckRange(x.r); e != api.OK || !x.r.Bound && x.r.High != "" {
				t.Errorf("%s of %.40q: %+v", x.call, a, x.r)
			}
		}
	}
}

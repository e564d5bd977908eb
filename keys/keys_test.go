package keys_test

import (
	"slices"
	"strings"
	"testing"

	"bookend/api"
	"bookend/keys"
)

// P2.1, Check: the length alone counts, up to 32 bytes and no more.
func TestCheck(t *testing.T) {
	for n := range 100 {
		want := api.OK
		if n > 32 {
			want = api.ErrLong
		}
		for _, c := range []string{"\x00", "a", "\\", "\x80", "\xff"} {
			if e := keys.Check(repeat(c, n)); e != want {
				t.Errorf("Check of %d times %q: %d", n, c, e)
			}
		}
	}
	for _, k := range []string{repeat("é", 16), repeat("𝄞", 8)} {
		if e := keys.Check(k); e != api.OK {
			t.Errorf("Check of %q: %d", k, e)
		}
	}
	for _, k := range []string{repeat("é", 17), repeat("𝄞", 9), repeat("a", 1<<20)} {
		if e := keys.Check(k); e != api.ErrLong {
			t.Errorf("Check of %d bytes: %d", len(k), e)
		}
	}
}

// P2.1, Compare and Common: the examples, and keys of 32 and of 33 bytes on either side.
func TestCompareCases(t *testing.T) {
	most := repeat("a", 32)
	for _, x := range []struct {
		a, b         string
		order, alike int
		e            api.Errno
	}{
		{"ab", "abc", -1, 2, api.OK}, {"b", "abc", 1, 0, api.OK}, {"abc", "abd", -1, 2, api.OK},
		{"abc", "ab", 1, 2, api.OK}, {"abd", "abc", 1, 2, api.OK}, {"abc", "abc", 0, 3, api.OK}, {"b", "aaaa", 1, 0, api.OK},
		{"", "", 0, 0, api.OK}, {"", "\x00", -1, 0, api.OK}, {"\x00", "", 1, 0, api.OK}, {"", top, -1, 0, api.OK}, {top, "", 1, 0, api.OK},
		{"\x7f", "\x80", -1, 0, api.OK}, {"\xff", "\x00", 1, 0, api.OK}, {"é", "è", 1, 1, api.OK}, {"a\xffb", "a\x00b", 1, 1, api.OK},
		{"acb", "abc", 1, 1, api.OK}, {"abc", "acb", -1, 1, api.OK}, {"xay", "xby", -1, 1, api.OK},
		{most, most, 0, 32, api.OK}, {top, top, 0, 32, api.OK}, {most, most[:31], 1, 31, api.OK}, {most[:31], most, -1, 31, api.OK},
		{most, most[:31] + "b", -1, 31, api.OK}, {top, top[:31] + "\xfe", 1, 31, api.OK}, {repeat("\x00", 31), repeat("\x00", 32), -1, 31, api.OK},
		{tooLong, "a", 0, 0, api.ErrLong}, {"a", tooLong, 0, 0, api.ErrLong}, {tooLong, tooLong, 0, 0, api.ErrLong}, {tooLong, most, 0, 0, api.ErrLong}, {"", repeat("b", 1<<20), 0, 0, api.ErrLong},
	} {
		order, e := keys.Compare(x.a, x.b)
		alike, f := keys.Common(x.a, x.b)
		if order != x.order || alike != x.alike || e != x.e || f != x.e {
			t.Errorf("%.40q, %.40q: Compare %d, %d; Common %d, %d", x.a, x.b, order, e, alike, f)
		}
	}
}

// P2.1, Compare and Common: all pairs of some keys, and of all keys of one byte.
func TestCompareAll(t *testing.T) {
	for _, l := range [][]string{allOf(edges, 3), someKeys(), allOf(everyByte(), 1)} {
		for _, a := range l {
			for _, b := range l {
				order, e := keys.Compare(a, b)
				alike, f := keys.Common(a, b)
				if order != orderOf(a, b) || alike != commonOf(a, b) || e != api.OK || f != api.OK {
					t.Fatalf("%q, %q: Compare %d, %d; Common %d, %d", a, b, order, e, alike, f)
				}
			}
		}
	}
}

// P2.2, Next: the examples, and the lengths at which it changes.
func TestNextCases(t *testing.T) {
	for _, x := range []struct {
		k, want string
		e       api.Errno
	}{
		{"ab", "ab\x00", api.OK}, {repeat("a", 32), repeat("a", 31) + "b", api.OK}, {repeat("a", 31) + "\xff", repeat("a", 30) + "b", api.OK}, {top, "", api.ErrDown},
		{"", "\x00", api.OK}, {"a\x00", "a\x00\x00", api.OK}, {"a\xff", "a\xff\x00", api.OK}, {"\xff", "\xff\x00", api.OK}, {"é", "é\x00", api.OK},
		{repeat("a", 31), repeat("a", 31) + "\x00", api.OK}, {top[:31], top[:31] + "\x00", api.OK}, {top[:31] + "\xfe", top, api.OK}, {top[:31] + "\x00", top[:31] + "\x01", api.OK},
		{"a" + top[:31], "b", api.OK}, {"a\x7f" + top[:30], "a\x80", api.OK}, {"\xfe" + top[:31], "\xff", api.OK}, {"\x00" + top[:31], "\x01", api.OK},
		{repeat("\x00", 32), repeat("\x00", 31) + "\x01", api.OK}, {repeat("\x00", 31) + "\xff", repeat("\x00", 30) + "\x01", api.OK},
		{repeat("a\xff", 16), repeat("a\xff", 15) + "b", api.OK},
		{tooLong, "", api.ErrLong}, {top + "\xff", "", api.ErrLong}, {repeat("a", 1<<20), "", api.ErrLong},
	} {
		next, e := keys.Next(x.k)
		checkString(t, "Next", []string{x.k}, next, e, x.want, x.e)
	}
}

// P2.2, Next: all keys of some, whose next one is found by numbers.
func TestNextAll(t *testing.T) {
	for _, k := range append(someKeys(), allOf(everyByte(), 1)...) {
		want, ok := after(k)
		next, e := keys.Next(k)
		if next != want || (e == api.OK) != ok || e != api.OK && e != api.ErrDown {
			t.Errorf("Next of %q: %q, %d, want %q", k, next, e, want)
		}
	}
}

// P2.2, Past: the examples, and prefixes that end with bytes 255, or have nothing else.
func TestPastCases(t *testing.T) {
	for _, x := range []struct {
		prefix, want string
		e            api.Errno
	}{
		{"ab", "ac", api.OK}, {"a\xff", "b", api.OK}, {"\xff", "", api.ErrNone}, {"", "", api.ErrNone},
		{"a\xff\xff\xff", "b", api.OK}, {"a\xffb", "a\xffc", api.OK}, {"\xffa", "\xffb", api.OK}, {"\xffa\xff", "\xffb", api.OK}, {"\xff\xff", "", api.ErrNone},
		{"\x00", "\x01", api.OK}, {"a\x00", "a\x01", api.OK}, {"a\x7f", "a\x80", api.OK}, {"a\xfe", "a\xff", api.OK}, {"\xfe\xff", "\xff", api.OK}, {"é", "ê", api.OK},
		{"a\x80\xff", "a\x81", api.OK}, {"ab\xfe\xff", "ab\xff", api.OK}, {"\xff\xfe\xff", "\xff\xff", api.OK},
		{repeat("a", 32), repeat("a", 31) + "b", api.OK}, {repeat("a", 31) + "\xff", repeat("a", 30) + "b", api.OK}, {"a" + top[:31], "b", api.OK}, {top, "", api.ErrNone}, {top[:31], "", api.ErrNone},
		{tooLong, "", api.ErrLong}, {top + "\xff", "", api.ErrLong},
	} {
		past, e := keys.Past(x.prefix)
		checkString(t, "Past", []string{x.prefix}, past, e, x.want, x.e)
	}
}

// P2.2, Past: what comes after the greatest key that begins with the prefix.
func TestPastAll(t *testing.T) {
	for _, k := range append(allOf(edges, 3), append(longKeys(), allOf(everyByte(), 1)...)...) {
		want, ok := after(k + top[len(k):])
		past, e := keys.Past(k)
		if past != want || (e == api.OK) != ok || e != api.OK && e != api.ErrNone {
			t.Errorf("Past of %q: %q, %d, want %q", k, past, e, want)
		}
	}
}

// P2.2, Between: the examples, keys that are equal or in the wrong order, and keys of 32 and of 33 bytes.
func TestBetweenCases(t *testing.T) {
	most := repeat("a", 32)
	for _, x := range []struct {
		a, b, want string
		e          api.Errno
	}{
		{"abc", "abxyz", "abd", api.OK}, {"ab", "abxyz", "ab\x00", api.OK}, {"a", "b", "b", api.OK}, {"b", "a", "", api.ErrForm},
		{"a", "a", "", api.ErrForm}, {"", "", "", api.ErrForm}, {"ab", "a", "", api.ErrForm}, {"a", "", "", api.ErrForm}, {"\xff", "a", "", api.ErrForm}, {most, most, "", api.ErrForm}, {top, top, "", api.ErrForm},
		{"", "\x00", "\x00", api.OK}, {"", "b", "\x00", api.OK}, {"", top, "\x00", api.OK}, {"a", "a\x00", "a\x00", api.OK}, {"a\x00", "a\x00\x00\x00", "a\x00\x00", api.OK},
		{"a", "c", "b", api.OK}, {"azz", "b", "b", api.OK}, {"a\xff", "b", "b", api.OK}, {"a\xfe\xff", "a\xff", "a\xff", api.OK}, {"a\x7f", "a\x80\xff", "a\x80", api.OK}, {"\x00", "\x01\x01", "\x01", api.OK}, {"ab", "cd", "b", api.OK},
		{most[:31], most, most[:31] + "\x00", api.OK}, {most, most[:31] + "c", most[:31] + "b", api.OK}, {most, "b", "b", api.OK}, {"a", most, "a\x00", api.OK}, {top[:31], top, top[:31] + "\x00", api.OK}, {top[:31] + "\xfe", top, top, api.OK},
		{tooLong, "b", "", api.ErrLong}, {"a", tooLong, "", api.ErrLong}, {tooLong, "a", "", api.ErrLong}, {tooLong, tooLong, "", api.ErrLong}, {"z", tooLong, "", api.ErrLong},
	} {
		s, e := keys.Between(x.a, x.b)
		checkString(t, "Between", []string{x.a, x.b}, s, e, x.want, x.e)
	}
}

// P2.2, Between: the first one of all keys of at most two bytes, the shorter ones first, then in their order.
func TestBetweenShort(t *testing.T) {
	all, some := allOf(everyByte(), 2), allOf("\x00a\xfe\xff", 2)
	for _, a := range some {
		for _, b := range some {
			s, e := keys.Between(a, b)
			at := slices.IndexFunc(all, func(k string) bool { return orderOf(a, k) < 0 && orderOf(k, b) <= 0 })
			if at < 0 && (s != "" || e != api.ErrForm) || at >= 0 && (s != all[at] || e != api.OK) {
				t.Errorf("Between of %q and %q: %q, %d", a, b, s, e)
			}
		}
	}
}

// P2.5: no key is between k and Next of k: the key before Next is k, and none of many keys lies between.
func TestNextNeighbour(t *testing.T) {
	l := someKeys()
	for _, k := range l {
		if k == top {
			continue
		}
		next, e := keys.Next(k)
		if e != api.OK || len(next) > 32 || orderOf(k, next) >= 0 || before(next) != k {
			t.Errorf("Next of %q: %q, %d", k, next, e)
		}
		for _, other := range l {
			if orderOf(k, other) < 0 && orderOf(other, next) < 0 {
				t.Errorf("%q is between %q and %q", other, k, next)
			}
		}
	}
}

// P2.5: Between is greater than a and not greater than b, begins like b, but for its last byte, and has one byte more than both have in common.
func TestBetweenProperties(t *testing.T) {
	l := someKeys()
	for _, a := range l {
		for _, b := range l {
			s, e := keys.Between(a, b)
			if orderOf(a, b) >= 0 {
				if s != "" || e != api.ErrForm {
					t.Fatalf("Between of %q and %q: %q, %d", a, b, s, e)
				}
				continue
			}
			if e != api.OK || orderOf(a, s) >= 0 || orderOf(s, b) > 0 || len(s) != commonOf(a, b)+1 {
				t.Fatalf("Between of %q and %q: %q, %d", a, b, s, e)
			}
			last := len(s) - 1
			if !strings.HasPrefix(b, s[:last]) || s[last] > b[last] {
				t.Fatalf("Between of %q and %q: %q does not begin like b", a, b, s)
			}
			// The least one of its length: with a last byte that is less by one, it is not greater than a.
			if s[last] > 0 && orderOf(a, s[:last]+string([]byte{s[last] - 1})) < 0 {
				t.Fatalf("Between of %q and %q: %q is not the least one", a, b, s)
			}
		}
	}
}

// P2.6: Compare is an order: any two keys compare one way, and back the other way; keys that are sorted by it ascend.
func TestOrder(t *testing.T) {
	l := someKeys()
	slices.SortFunc(l, func(a, b string) int {
		order, _ := keys.Compare(a, b)
		return order
	})
	if l[0] != "" || l[len(l)-1] != top {
		t.Errorf("the least key is %q, the greatest one %q", l[0], l[len(l)-1])
	}
	for i, a := range l {
		for j, b := range l {
			there, _ := keys.Compare(a, b)
			back, _ := keys.Compare(b, a)
			if there != -back || (there == 0) != (a == b) || i < j && there > 0 {
				t.Fatalf("%q, %q: %d, and back %d", a, b, there, back)
			}
		}
	}
}

// P2.6: of three keys in order the first and the last one have no more bytes in common than the first two, or the last two.
func TestCommonInOrder(t *testing.T) {
	l := append(allOf("\x00a\xff", 3), repeat("a", 31), repeat("a", 32), repeat("a", 31)+"\xff", top)
	slices.SortFunc(l, orderOf)
	for i, a := range l {
		for j, b := range l[i:] {
			for _, c := range l[i+j:] {
				ac, _ := keys.Common(a, c)
				ab, _ := keys.Common(a, b)
				bc, _ := keys.Common(b, c)
				if ac > ab || ac > bc {
					t.Fatalf("%q, %q, %q: %d, %d, %d", a, b, c, ac, ab, bc)
				}
			}
		}
	}
}

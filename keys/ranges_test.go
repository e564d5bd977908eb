package keys_test

import (
	"strings"
	"testing"

	"bookend/api"
	"bookend/keys"
)

// badRanges returns what is no range, with the error of CheckRange.
func badRanges() map[api.KeRange]api.Errno {
	return map[api.KeRange]api.Errno{
		{Low: tooLong}:                             api.ErrLong,
		{Low: tooLong, Bound: true}:                api.ErrLong,
		{Low: tooLong, High: "b", Bound: true}:     api.ErrLong,
		{Low: "a", High: tooLong, Bound: true}:     api.ErrLong,
		{Low: tooLong, High: tooLong, Bound: true}: api.ErrLong,
		{Low: "a", High: tooLong}:                  api.ErrLong,
		{Low: tooLong, High: "b"}:                  api.ErrLong,
		{High: "b"}:                                api.ErrForm,
		{Low: "a", High: "b"}:                      api.ErrForm,
		{Low: "b", High: "a"}:                      api.ErrForm,
		{Low: "a", High: "\x00"}:                   api.ErrForm,
		{Low: top, High: top}:                      api.ErrForm,
	}
}

// P2.3: what is no range, in every function with ranges; its error comes before that of a key.
func TestBadRanges(t *testing.T) {
	for r, want := range badRanges() {
		if e := keys.CheckRange(r); e != want {
			t.Errorf("CheckRange of %#v: %d", r, e)
		}
		for _, k := range []string{"", "a", "b", tooLong} {
			if in, e := keys.In(r, k); in || e != want {
				t.Errorf("In of %#v, %q: %v, %d", r, k, in, e)
			}
		}
		if empty, e := keys.Empty(r); empty || e != want {
			t.Errorf("Empty of %#v: %v, %d", r, empty, e)
		}
		for _, s := range []api.KeRange{{}, from("a"), upTo("a", "b"), upTo("", "")} {
			if m, e := keys.Meet(r, s); m != (api.KeRange{}) || e != want {
				t.Errorf("Meet of %#v, %#v: %#v, %d", r, s, m, e)
			}
			if m, e := keys.Meet(s, r); m != (api.KeRange{}) || e != want {
				t.Errorf("Meet of %#v, %#v: %#v, %d", s, r, m, e)
			}
		}
		// Of two that are none, the first one has the error.
		for s := range badRanges() {
			if m, e := keys.Meet(r, s); m != (api.KeRange{}) || e != want {
				t.Errorf("Meet of %#v, %#v: %#v, %d", r, s, m, e)
			}
		}
	}
}

// P2.3: keys of 33 bytes are none of a range, and no prefix; those of 32 bytes are.
func TestRangeLong(t *testing.T) {
	for _, r := range []api.KeRange{{}, from("a"), from(top), upTo("a", "b"), upTo("b", "a"), upTo("", "")} {
		for _, k := range []string{tooLong, top + "\x00", repeat("b", 1<<20)} {
			if in, e := keys.In(r, k); in || e != api.ErrLong {
				t.Errorf("In of %#v: %v, %d", r, in, e)
			}
		}
	}
	for _, prefix := range []string{tooLong, top + "\xff", repeat("b", 1<<20)} {
		if r, e := keys.Of(prefix); r != (api.KeRange{}) || e != api.ErrLong {
			t.Errorf("Of of %d bytes: %#v, %d", len(prefix), r, e)
		}
	}
	most := repeat("a", 32)
	for _, r := range []api.KeRange{from(most), upTo(most, top), upTo("", top), upTo(most, most)} {
		if e := keys.CheckRange(r); e != api.OK {
			t.Errorf("CheckRange of %#v: %d", r, e)
		}
		in, e := keys.In(r, most)
		if in != (r.High != most) || e != api.OK {
			t.Errorf("In of %#v: %v, %d", r, in, e)
		}
	}
	if in, e := keys.In(from(most), top); !in || e != api.OK {
		t.Errorf("In: the greatest key: %v, %d", in, e)
	}
}

// P2.3, CheckRange, In, Empty: all ranges of some keys, also those whose High is not greater than Low.
func TestInAll(t *testing.T) {
	l := append(allOf("\x00a\xff", 2), repeat("a", 32), top)
	for _, r := range someRanges(l) {
		if e := keys.CheckRange(r); e != api.OK {
			t.Fatalf("CheckRange of %#v: %d", r, e)
		}
		for _, k := range l {
			want := orderOf(r.Low, k) <= 0 && (!r.Bound || orderOf(k, r.High) < 0)
			if in, e := keys.In(r, k); in != want || e != api.OK {
				t.Fatalf("In of %#v, %q: %v, %d", r, k, in, e)
			}
		}
		want := r.Bound && orderOf(r.High, r.Low) <= 0
		if empty, e := keys.Empty(r); empty != want || e != api.OK {
			t.Fatalf("Empty of %#v: %v, %d", r, empty, e)
		}
	}
}

// P2.3, Meet: the example, and which bounds it has.
func TestMeetCases(t *testing.T) {
	for _, x := range []struct{ r, s, want api.KeRange }{
		{upTo("ab", "ac"), from("abc"), upTo("abc", "ac")},
		{api.KeRange{}, api.KeRange{}, api.KeRange{}},
		{from("a"), from("b"), from("b")},
		{from("a"), upTo("b", "c"), upTo("b", "c")},
		{from("b"), upTo("a", "c"), upTo("b", "c")},
		{upTo("a", "d"), upTo("b", "c"), upTo("b", "c")},
		{upTo("a", "c"), upTo("b", "d"), upTo("b", "c")},
		{upTo("a", "b"), upTo("c", "d"), upTo("c", "b")},
		{upTo("", ""), from("a"), upTo("a", "")},
		{upTo("a", ""), upTo("a", "b"), upTo("a", "")},
		{upTo("d", "c"), upTo("b", "a"), upTo("d", "a")},
		{from(""), upTo("", top), upTo("", top)},
		{from(top), upTo("a", "b"), upTo(top, "b")},
	} {
		there, e := keys.Meet(x.r, x.s)
		back, f := keys.Meet(x.s, x.r)
		if there != x.want || back != x.want || e != api.OK || f != api.OK {
			t.Errorf("Meet of %#v, %#v: %#v, %d, and back %#v, %d", x.r, x.s, there, e, back, f)
		}
	}
}

// P2.3 and P2.7: all pairs of some ranges: Low, High and Bound of Meet; a key is in it exactly if it is in both.
func TestMeetAll(t *testing.T) {
	l := []string{"", "\x00", "a", "a\x00", "ab", "b", top}
	ranges := someRanges(l)
	for _, r := range ranges {
		for _, s := range ranges {
			m, e := keys.Meet(r, s)
			if e != api.OK || keys.CheckRange(m) != api.OK || m.Low != max(r.Low, s.Low) || m.Bound != (r.Bound || s.Bound) {
				t.Fatalf("Meet of %#v, %#v: %#v, %d", r, s, m, e)
			}
			for _, k := range append(l, "a\x01", "c", top[:31]) {
				in, _ := keys.In(m, k)
				inR, _ := keys.In(r, k)
				inS, _ := keys.In(s, k)
				if in != (inR && inS) {
					t.Fatalf("Meet of %#v, %#v: %#v; %q is in it: %v", r, s, m, k, in)
				}
			}
			if m.Bound && m.High != r.High && m.High != s.High {
				t.Fatalf("Meet of %#v, %#v: %#v", r, s, m)
			}
		}
	}
}

// P2.3, Of: the example, and prefixes that end with bytes 255, or have nothing else.
func TestOfCases(t *testing.T) {
	for _, x := range []struct {
		prefix string
		want   api.KeRange
	}{
		{"ab", upTo("ab", "ac")}, {"", from("")}, {"\xff", from("\xff")}, {"\xff\xff", from("\xff\xff")}, {top, from(top)},
		{"a\xff", upTo("a\xff", "b")}, {"a\xff\xff", upTo("a\xff\xff", "b")}, {"\xff\xfe", upTo("\xff\xfe", "\xff\xff")}, {"\x00", upTo("\x00", "\x01")},
		{repeat("a", 32), upTo(repeat("a", 32), repeat("a", 31)+"b")}, {repeat("a", 31) + "\xff", upTo(repeat("a", 31)+"\xff", repeat("a", 30)+"b")},
	} {
		if r, e := keys.Of(x.prefix); r != x.want || e != api.OK {
			t.Errorf("Of of %q: %#v, %d", x.prefix, r, e)
		}
	}
}

// P2.7: a key is in Of of a prefix exactly if it begins with this.
func TestOfAll(t *testing.T) {
	l := someKeys()
	for _, prefix := range l {
		r, e := keys.Of(prefix)
		if e != api.OK || keys.CheckRange(r) != api.OK {
			t.Fatalf("Of of %q: %#v, %d", prefix, r, e)
		}
		for _, k := range append(l, prefix+top[len(prefix):]) {
			if in, _ := keys.In(r, k); in != strings.HasPrefix(k, prefix) {
				t.Fatalf("Of of %q: %#v; %q is in it: %v", prefix, r, k, in)
			}
		}
	}
}

// P2.7: a range is empty exactly if its Low is not in it; then no other key is in it.
func TestEmptyLow(t *testing.T) {
	l := append(allOf("\x00a\xff", 2), repeat("a", 32), top)
	for _, r := range someRanges(l) {
		empty, e := keys.Empty(r)
		in, f := keys.In(r, r.Low)
		if empty == in || e != api.OK || f != api.OK {
			t.Fatalf("%#v: Empty %v, %d; its Low is in it: %v, %d", r, empty, e, in, f)
		}
		for _, k := range l {
			if in, _ := keys.In(r, k); in && empty {
				t.Fatalf("%#v is empty, but %q is in it", r, k)
			}
		}
	}
}

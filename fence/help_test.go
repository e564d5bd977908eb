package fence_test

import (
	"fmt"
	"math/big"
	"slices"
	"strings"
	"testing"

	"bookend/api"
)

// put and del are entries.
func put(key, val string, seq int64) api.Entry { return api.Entry{Key: key, Val: val, Seq: seq} }
func del(key string, seq int64) api.Entry      { return api.Entry{Key: key, Dead: true, Seq: seq} }

// list is a list of entries with these keys, each third one of which is a tombstone.
func list(keys ...string) []api.Entry {
	var l []api.Entry
	for i, k := range keys {
		if i%3 == 2 {
			l = append(l, del(k, int64(i+1)))
		} else {
			l = append(l, put(k, "v", int64(i+1)))
		}
	}
	return l
}

// of is a fence.
func of(step int, marks ...string) api.FeFence { return api.FeFence{Step: step, Marks: marks} }

// from and upTo are ranges.
func from(low string) api.KeRange       { return api.KeRange{Low: low} }
func upTo(low, high string) api.KeRange { return api.KeRange{Low: low, High: high, Bound: true} }

// repeat is strings.Repeat with a shorter name.
func repeat(s string, n int) string { return strings.Repeat(s, n) }

// sameFence reports whether two fences are equal.
func sameFence(a, b api.FeFence) bool { return a.Step == b.Step && slices.Equal(a.Marks, b.Marks) }

// under reports whether the key a is less than the key b.
func under(a, b string) bool { return slices.Compare([]byte(a), []byte(b)) == -1 }

// keyErr is the error of a key.
func keyErr(k string) api.Errno {
	if len(k) >= 33 {
		return api.ErrLong
	}
	return api.OK
}

// rangeErr is the error of a range.
func rangeErr(r api.KeRange) api.Errno {
	switch {
	case len(r.Low) >= 33, len(r.High) >= 33:
		return api.ErrLong
	case r.High > "" && !r.Bound:
		return api.ErrForm
	}
	return api.OK
}

// listErr is the error of a list of entries.
func listErr(l []api.Entry) api.Errno {
	if len(l) >= 5001 {
		return api.ErrLong
	}
	for i, x := range l {
		switch {
		case len(x.Key) >= 33, len(x.Val) >= 65:
			return api.ErrLong
		case x.Dead && x.Val > "":
			return api.ErrForm
		case x.Seq <= 0, x.Seq > 1e9:
			return api.ErrRange
		case i > 0 && !under(l[i-1].Key, x.Key):
			return api.ErrForm
		}
	}
	return api.OK
}

// stepErr is the error of a step.
func stepErr(step int) api.Errno {
	if step <= 0 || step > 64 {
		return api.ErrRange
	}
	return api.OK
}

// fenceErr is what Check must return.
func fenceErr(f api.FeFence) (int, api.Errno) {
	if stepErr(f.Step) != api.OK {
		return -1, api.ErrRange
	}
	if len(f.Marks) >= 5000 {
		return -1, api.ErrLong
	}
	for i, m := range f.Marks {
		if len(m) >= 33 {
			return i, api.ErrLong
		}
		if i > 0 && !under(f.Marks[i-1], m) {
			return i, api.ErrForm
		}
	}
	return 0, api.OK
}

// firstErr is the first one that is an error.
func firstErr(l ...api.Errno) api.Errno {
	for _, e := range l {
		if e != api.OK {
			return e
		}
	}
	return api.OK
}

// errOf is the error of a fence alone.
func errOf(f api.FeFence) api.Errno {
	_, e := fenceErr(f)
	return e
}

// between is the least one of the shortest keys that are greater than a, but not than b: of each length the least key that is greater than a is that of the length of all before it, as a number of so many digits of a byte, and one more.
func between(a, b string) string {
	for n := 1; n <= len(b); n++ {
		key := a + repeat("\x00", max(n-len(a), 0))
		if len(a) >= n {
			x := new(big.Int).SetBytes([]byte(a[:n]))
			x.Add(x, big.NewInt(1))
			if x.BitLen() > 8*n {
				continue
			}
			key = string(x.FillBytes(make([]byte, n)))
		}
		if !under(b, key) {
			return key
		}
	}
	panic("no key is between these")
}

// groups returns the indices of the entries of each block.
func groups(n, step int) [][]int {
	var l [][]int
	for i := range n {
		if i%step == 0 {
			l = append(l, nil)
		}
		l[len(l)-1] = append(l[len(l)-1], i)
	}
	return l
}

// fenceOf is what Make must return for a list and a step without error.
func fenceOf(l []api.Entry, step int) api.FeFence {
	f := of(step)
	for _, group := range groups(len(l), step) {
		if first := group[0]; first > 0 {
			f.Marks = append(f.Marks, between(l[first-1].Key, l[first].Key))
		}
	}
	return f
}

// fitsList is what Fits must return for a fence and a list without error: each mark is greater than all keys of the blocks before it, but than none of the others.
func fitsList(f api.FeFence, l []api.Entry) bool {
	all := groups(len(l), f.Step)
	if len(f.Marks) != max(len(all)-1, 0) {
		return false
	}
	for i, m := range f.Marks {
		for n, group := range all {
			for _, at := range group {
				if under(l[at].Key, m) != (n <= i) {
					return false
				}
			}
		}
	}
	return true
}

// blockOf is what Block must return for a fence and a key without error.
func blockOf(f api.FeFence, key string) int {
	n := 0
	for _, m := range f.Marks {
		if !under(key, m) {
			n++
		}
	}
	return n
}

// blocksOf is what Blocks must return for a fence and a range without error: the marks that are in the range, above its Low, begin other blocks of its keys.
func blocksOf(f api.FeFence, r api.KeRange) (int, int) {
	if r.Bound && !under(r.Low, r.High) {
		return 0, 0
	}
	first := blockOf(f, r.Low)
	end := first + 1
	for _, m := range f.Marks {
		if under(r.Low, m) && (!r.Bound || under(m, r.High)) {
			end++
		}
	}
	return first, end
}

// spanOf is what Span must return.
func spanOf(f api.FeFence, n int, key string) (int, int, api.Errno) {
	if e := firstErr(errOf(f), keyErr(key)); e != api.OK {
		return 0, 0, e
	}
	if n < 0 || n > 5000 {
		return 0, 0, api.ErrRange
	}
	all := groups(n, f.Step)
	switch {
	case n == 0 && len(f.Marks) == 0:
		return 0, 0, api.OK
	case len(all) != len(f.Marks)+1:
		return 0, 0, api.ErrForm
	}
	group := all[blockOf(f, key)]
	return slices.Min(group), slices.Max(group) + 1, api.OK
}

// findOf is what Find must return.
func findOf(f api.FeFence, l []api.Entry, key string) (int, api.Errno) {
	if e := firstErr(errOf(f), listErr(l), keyErr(key)); e != api.OK {
		return 0, e
	}
	if !fitsList(f, l) {
		return 0, api.ErrForm
	}
	for i := range l {
		if l[i].Key == key {
			return i, api.OK
		}
	}
	return 0, api.ErrNone
}

// allOf returns all strings of at most most of the letters, ascending.
func allOf(letters string, most int) []string {
	l := []string{""}
	for at := 0; at < len(l) && len(l[at]) < most; at++ {
		for i := range len(letters) {
			l = append(l, l[at]+letters[i:i+1])
		}
	}
	slices.SortFunc(l, func(a, b string) int { return slices.Compare([]byte(a), []byte(b)) })
	return l
}

// numbered returns n keys of at most two bytes, ascending.
func numbered(n int) []string {
	var l []string
	for i := range n {
		l = append(l, string([]byte{byte(i >> 8), byte(i)}))
	}
	return l
}

// edgeKeys returns keys, ascending, at which an order could go wrong, also of the greatest length.
func edgeKeys() []string {
	return []string{
		"", "\x00", "\x00\x00", "a", "a\x00", "a\x00b", "ab", "a\xff", repeat("b", 31) + "a", repeat("b", 32), "c", "\x7f", "\x7f\xff", "\x80", "é", "\xfe\xff",
		"\xff", "\xff\x00", repeat("\xff", 31), repeat("\xff", 31) + "\x00", repeat("\xff", 31) + "\xfe", repeat("\xff", 32),
	}
}

// wrongKeys returns what is no key.
func wrongKeys() []string {
	return []string{repeat("k", 33), repeat("\x00", 33), repeat("\xff", 33), repeat("k", 1<<20)}
}

// wrongSteps returns what is no step.
func wrongSteps() []int { return []int{0, -1, 65, -64, 66, 5000, 1<<32 + 1, 1<<63 - 1, -1 << 63} }

// wrongLists returns what is no ascending list, with each error, and with several.
func wrongLists() [][]api.Entry {
	full := list(numbered(5001)...)
	return [][]api.Entry{
		list("b", "a"), list("a", "a"), list("a", "c", "b"), list("a", "b", "b"), list("\x80", "\x7f"), list("a", repeat("k", 33)), list(repeat("k", 33)),
		{put("k", repeat("v", 65), 1)}, {put("a", "", 1), put("k", "", 0)}, {put("k", "", 1e9+1)}, {api.Entry{}}, {api.Entry{Key: "k", Val: "v", Dead: true, Seq: 1}}, append(list("a", "b"), api.Entry{Key: "c"}),
		full, make([]api.Entry, 5001), make([]api.Entry, 5000), append(slices.Clone(full[:4999]), full[0]), append(slices.Clone(full[:4999]), put("\xff", "", 0)),
	}
}

// wrongFences returns what is no fence, with each error, and with several.
func wrongFences() []api.FeFence {
	full := numbered(5000)
	l := []api.FeFence{
		of(1, "a", "a"), of(2, "b", "a"), of(3, "a", "c", "b"), of(64, "a", "b", "b"), of(1, "\x80", "\x7f"), of(2, "", ""), of(1, "ab", "a"),
		of(2, repeat("k", 33)), of(2, "a", repeat("k", 33)), of(1, repeat("\xff", 33), "a"), of(5, "b", "a", repeat("k", 33)), of(5, "b", repeat("k", 33), "a"), of(5, "l", repeat("k", 33)),
		of(1, full...), of(64, make([]string, 5000)...), of(64, make([]string, 4999)...), of(1, append(slices.Clone(full[:4998]), full[0])...), of(1, append(slices.Clone(full[:4998]), repeat("\xff", 33))...), of(1, make([]string, 1<<16)...),
	}
	for _, step := range wrongSteps() {
		l = append(l, of(step), of(step, "a", "b"), of(step, "b", "a"), of(step, repeat("k", 33)), of(step, full...))
	}
	return l
}

// wrongRanges returns what is no range, with each error, and with both.
func wrongRanges() []api.KeRange {
	return []api.KeRange{
		{High: "b"}, {Low: "a", High: "\x00"}, {Low: "b", High: "a"}, from(repeat("k", 33)), upTo("a", repeat("k", 33)), upTo(repeat("k", 33), "a"), {Low: "a", High: repeat("k", 33)}, {Low: repeat("k", 33), High: "b"},
	}
}

// A dice yields numbers, the same ones each time.
type dice struct{ x uint32 }

// roll returns a number from 0 to n - 1.
func (d *dice) roll(n int) int {
	d.x = d.x*1664525 + 1013904223
	return int(d.x>>8) % n
}

// some returns some of the strings, in their order: one of so many.
func (d *dice) some(l []string, oneOf int) []string {
	var out []string
	for _, s := range l {
		if d.roll(oneOf) == 0 {
			out = append(out, s)
		}
	}
	return out
}

// fitting returns a fence that fits the list: each mark is any one of the keys that are above the key before its block, but not above its first one; between the two keys it may have any end.
func (d *dice) fitting(l []api.Entry, step int) api.FeFence {
	f := of(step)
	for i := step; i < len(l); i += step {
		low, high := l[i-1].Key, l[i].Key
		least := between(low, high)
		choices := []string{least, high}
		for _, end := range []string{"\x00", "a", "\xff", repeat("\xff", 32)} {
			for _, begin := range []string{low, least, high[:len(high)-1]} {
				if k := begin + end; len(k) <= 32 && under(low, k) && !under(high, k) {
					choices = append(choices, k)
				}
			}
		}
		f.Marks = append(f.Marks, choices[d.roll(len(choices))])
	}
	return f
}

// brief returns what there is, or its beginning, for messages.
func brief(x ...any) string {
	s := fmt.Sprintf("%+q", x)
	if len(s) > 300 {
		return fmt.Sprintf("%s .. (%d)", s[:300], len(s))
	}
	return s
}

// checkFence checks a fence and an error.
func checkFence(t *testing.T, got api.FeFence, e api.Errno, want api.FeFence, we api.Errno, args ...any) {
	t.Helper()
	if !sameFence(got, want) || e != we {
		t.Errorf("Make of %s: %s, %d, want %s, %d", brief(args...), brief(got), e, brief(want), we)
	}
}

// checkOne checks a number, or whether something is so, and an error.
func checkOne[T comparable](t *testing.T, call string, got T, e api.Errno, want T, we api.Errno, args ...any) {
	t.Helper()
	if got != want || e != we {
		t.Errorf("%s of %s: %v, %d, want %v, %d", call, brief(args...), got, e, want, we)
	}
}

// checkTwo checks two numbers and an error.
func checkTwo(t *testing.T, call string, from, to int, e api.Errno, wantFrom, wantTo int, we api.Errno, args ...any) {
	t.Helper()
	if from != wantFrom || to != wantTo || e != we {
		t.Errorf("%s of %s: %d, %d, %d, want %d, %d, %d", call, brief(args...), from, to, e, wantFrom, wantTo, we)
	}
}

package fence_test

import (
	"slices"
	"testing"

	"bookend/api"
	"bookend/entries"
	"bookend/fence"
	"bookend/keys"
)

// someFences returns fences: with no marks, with few ones, and with many.
func someFences() []api.FeFence {
	full := numbered(4999)
	l := []api.FeFence{of(1), of(64), of(2, ""), of(2, "a"), of(3, "", "a"), of(2, "b", "bce"), of(4, repeat("\xff", 32)), of(7, edgeKeys()...), of(1, edgeKeys()[1:]...), of(1, full[:64]...), of(5, full[:300]...)}
	d := &dice{4}
	for range 20 {
		l = append(l, of(d.roll(64)+1, d.some(edgeKeys(), 2)...))
	}
	return l
}

// someKeys returns keys: those at the edges, those of few letters, and some of many marks.
func someKeys() []string {
	return append(append(edgeKeys(), allOf("\x00ab\xff", 3)...), "bcd", "bce", "bcf", "\x00\x3f", "\x00\x40", "\x00\x40\x00", "\x01\x2b", "\x01\x2c", "\x13\x86", "\x13\x87")
}

// P7.2, Block: all keys of some fences, each mark among them, and what is just below it and above it.
func TestBlock(t *testing.T) {
	for _, f := range append(someFences(), of(1, numbered(4999)...)) {
		tried := someKeys()
		for _, m := range f.Marks[:min(len(f.Marks), 100)] {
			tried = append(tried, m)
			if len(m) < 32 {
				tried = append(tried, m+"\x00", m+repeat("\xff", 32-len(m)))
			}
			if len(m) > 0 {
				tried = append(tried, m[:len(m)-1])
			}
		}
		for _, key := range tried {
			n, e := fence.Block(f, key)
			checkOne(t, "Block", n, e, blockOf(f, key), api.OK, f, key)
		}
	}
}

// P7.2, Blocks: all pairs of keys as bounds, also those whose range has no keys, and ranges without Bound.
func TestBlocks(t *testing.T) {
	bounds := append(append(edgeKeys(), allOf("ab\xff", 2)...), "bce", "bcf", "\x00\x40", "\x01\x2b", "\x01\x2c")
	for _, f := range append(someFences(), of(1, "a", "a\x00", "ab", "b", "b\x00")) {
		for _, low := range bounds {
			ranges := []api.KeRange{from(low)}
			for _, high := range bounds {
				ranges = append(ranges, upTo(low, high))
			}
			for _, r := range ranges {
				wantFrom, wantTo := blocksOf(f, r)
				first, end, e := fence.Blocks(f, r)
				checkTwo(t, "Blocks", first, end, e, wantFrom, wantTo, api.OK, f, r)
			}
		}
	}
}

// P7.2, Blocks: where High is a mark, or just above one, and Low is one.
func TestBlocksAtMarks(t *testing.T) {
	f := of(3, "b", "d", "f")
	for _, c := range []struct {
		r          api.KeRange
		first, end int
	}{
		{api.KeRange{}, 0, 4}, {from("b"), 1, 4}, {from("az"), 0, 4}, {from("f"), 3, 4}, {from("z"), 3, 4}, {upTo("", ""), 0, 0}, {upTo("b", "b"), 0, 0}, {upTo("d", "b"), 0, 0}, {upTo("z", "y"), 0, 0}, {upTo("f", ""), 0, 0},
		{upTo("", "a"), 0, 1}, {upTo("", "b"), 0, 1}, {upTo("", "b\x00"), 0, 2}, {upTo("b", "b\x00"), 1, 2}, {upTo("b", "d"), 1, 2}, {upTo("b", "d\x00"), 1, 3}, {upTo("c", "e"), 1, 3}, {upTo("a", "f"), 0, 3}, {upTo("a", "g"), 0, 4}, {upTo("f", "g"), 3, 4}, {upTo("y", "z"), 3, 4},
	} {
		first, end, e := fence.Blocks(f, c.r)
		checkTwo(t, "Blocks", first, end, e, c.first, c.end, api.OK, f, c.r)
	}
	for _, r := range []api.KeRange{{}, from("a"), upTo("a", "b"), upTo("", "\x00")} {
		first, end, e := fence.Blocks(of(1), r)
		checkTwo(t, "Blocks", first, end, e, 0, 1, api.OK, r)
	}
}

// P7.2: the errors of keys and of ranges.
func TestBlockErrors(t *testing.T) {
	for _, f := range someFences() {
		for _, key := range wrongKeys() {
			n, e := fence.Block(f, key)
			checkOne(t, "Block", n, e, 0, api.ErrLong, f, key)
		}
		for _, r := range wrongRanges() {
			first, end, e := fence.Blocks(f, r)
			checkTwo(t, "Blocks", first, end, e, 0, 0, rangeErr(r), f, r)
		}
	}
}

// P7.3, Span: all lengths of lists, from those with too few blocks to those with too many.
func TestSpan(t *testing.T) {
	seen := map[api.Errno]int{}
	for marks := range 6 {
		f := of(1, []string{"b", "d", "e", "e\x00", "z"}[:marks]...)
		for _, step := range someSteps() {
			f.Step = step
			for n := range 7*step + 3 {
				for _, key := range []string{"", "a", "b", "c", "e", "e\x00", "z", "zz"} {
					wantFrom, wantTo, we := spanOf(f, n, key)
					first, end, e := fence.Span(f, n, key)
					checkTwo(t, "Span", first, end, e, wantFrom, wantTo, we, f, n, key)
					seen[e]++
				}
			}
		}
	}
	if seen[api.OK] == 0 || seen[api.ErrForm] == 0 {
		t.Errorf("errors seen: %v", seen)
	}
}

// P7.3, Span: up to 5000 entries, and 4999 marks.
func TestSpanLongest(t *testing.T) {
	full := numbered(4999)
	for _, c := range []struct {
		f          api.FeFence
		n          int
		key        string
		first, end int
		e          api.Errno
	}{
		{of(1, full...), 5000, repeat("\xff", 32), 4999, 5000, api.OK}, {of(1, full...), 5000, "", 0, 1, api.OK}, {of(1, full...), 4999, "", 0, 0, api.ErrForm}, {of(2, full[:2499]...), 5000, "\xff", 4998, 5000, api.OK}, {of(2, full[:2499]...), 4999, "\xff", 4998, 4999, api.OK}, {of(2, full[:2499]...), 4998, "\xff", 0, 0, api.ErrForm},
		{of(64, full[:78]...), 5000, "\xff", 4992, 5000, api.OK}, {of(64, full[:78]...), 4993, "\xff", 4992, 4993, api.OK}, {of(64, full[:78]...), 4992, "\xff", 0, 0, api.ErrForm}, {of(64, full[:77]...), 4992, "\xff", 4928, 4992, api.OK},
		{of(64), 64, "a", 0, 64, api.OK}, {of(64), 65, "a", 0, 0, api.ErrForm}, {of(64), 1, "a", 0, 1, api.OK}, {of(64), 0, "a", 0, 0, api.OK}, {of(1), 0, "", 0, 0, api.OK}, {of(1, "a"), 0, "a", 0, 0, api.ErrForm}, {of(1, "a"), 1, "a", 0, 0, api.ErrForm},
	} {
		first, end, e := fence.Span(c.f, c.n, c.key)
		checkTwo(t, "Span", first, end, e, c.first, c.end, c.e, c.f, c.n, c.key)
	}
}

// P7.3, Span: the error of the key comes first, then that of n, then that of the blocks.
func TestSpanErrors(t *testing.T) {
	for _, f := range someFences() {
		for _, n := range []int{-1, -2, 5001, 5002, 1 << 20, 1<<32 + 1, 1<<63 - 1, -1 << 63, 0, 1, 4999, 5000} {
			for _, key := range append(wrongKeys(), "", "a", repeat("\xff", 32)) {
				wantFrom, wantTo, we := spanOf(f, n, key)
				first, end, e := fence.Span(f, n, key)
				checkTwo(t, "Span", first, end, e, wantFrom, wantTo, we, f, n, key)
			}
		}
	}
}

// P7.3 and P7.4, Find: all keys of lists, and others, through the fence of a list and through others that fit it; it is entries.Find.
func TestFind(t *testing.T) {
	d := &dice{5}
	for _, l := range someLists() {
		tried := someKeys()
		for _, x := range l {
			if len(l) < 1000 || d.roll(100) == 0 {
				tried = append(tried, x.Key)
			}
		}
		for _, step := range []int{1, 2, 3, 64} {
			made, _ := fence.Make(l, step)
			fences := []api.FeFence{made, d.fitting(l, step)}
			if len(l) >= 1000 {
				fences, tried = fences[:1], tried[max(len(tried)-20, 0):]
			}
			for _, f := range fences {
				for _, key := range tried {
					want, we := entries.Find(l, key)
					at, e := fence.Find(f, l, key)
					checkOne(t, "Find", at, e, want, we, f, l, key)
				}
			}
		}
	}
}

// P7.3, Find: lists and fences that do not fit each other, and all errors, in their order.
func TestFindErrors(t *testing.T) {
	seen := map[api.Errno]int{}
	lists := append(wrongLists(), nil, list("a"), list("aa", "ab", "b", "bcd", "bce"), list("a", "b", "c"), list(edgeKeys()...), list(numbered(130)...))
	fences := append([]api.FeFence{of(1), of(2, "b"), of(2, "abb", "bce"), of(2, "b", "bcf"), of(1, "b", "c"), of(1, "b", "d"), of(1, "a", "b"), of(64, "\x00\x40", "\x00\x80"), of(0, "b"), of(2, "b", "a")}, someFences()...)
	for _, f := range fences {
		for _, l := range lists {
			for _, key := range append(wrongKeys(), "", "a", "b", "bcc", "bcd", repeat("\xff", 32)) {
				want, we := findOf(f, l, key)
				at, e := fence.Find(f, l, key)
				checkOne(t, "Find", at, e, want, we, f, l, key)
				seen[e]++
			}
		}
	}
	for _, e := range []api.Errno{api.OK, api.ErrLong, api.ErrNone, api.ErrForm, api.ErrRange} {
		if seen[e] == 0 {
			t.Errorf("the error %d was not seen", e)
		}
	}
}

// P7.4: an entry with a key is in the Span of this key, or nowhere, whichever fence fits.
func TestSpanHasKey(t *testing.T) {
	d := &dice{6}
	for _, l := range someLists() {
		for _, step := range someSteps() {
			if len(l) > 200 && step > 2 {
				continue
			}
			f := d.fitting(l, step)
			tried := d.some(someKeys(), 2)
			for i, x := range l {
				if len(l) < 200 || i%97 == 0 {
					tried = append(tried, x.Key)
				}
			}
			for _, key := range tried {
				first, end, e := fence.Span(f, len(l), key)
				if e != api.OK || first < 0 || end > len(l) || end-first > step || (first == end) != (len(l) == 0) {
					t.Fatalf("Span of %s: %d, %d, %d", brief(f, len(l), key), first, end, e)
				}
				at := slices.IndexFunc(l, func(x api.Entry) bool { return x.Key == key })
				if at >= 0 && (at < first || at >= end) {
					t.Errorf("Span of %s: %d, %d, but the entry is at %d", brief(f, len(l), key), first, end, at)
				}
			}
		}
	}
}

// P7.4 and P7.2: entries with keys of a range are in its Blocks; each of these is the block of a key of the range, and each key of it has one of them.
func TestBlocksHaveRange(t *testing.T) {
	d := &dice{7}
	bounds := someKeys()
	for range 1500 {
		l, step := list(d.some(bounds, 4)...), d.roll(5)+1
		slices.SortFunc(l, func(a, b api.Entry) int { return slices.Compare([]byte(a.Key), []byte(b.Key)) })
		l = slices.CompactFunc(l, func(a, b api.Entry) bool { return a.Key == b.Key })
		f := d.fitting(l, step)
		r := upTo(bounds[d.roll(len(bounds))], bounds[d.roll(len(bounds))])
		if d.roll(4) == 0 {
			r = from(r.Low)
		}
		first, end, e := fence.Blocks(f, r)
		if e != api.OK {
			t.Fatalf("Blocks of %s: %d", brief(f, r), e)
		}
		for i, x := range l {
			if in, _ := keys.In(r, x.Key); in && (i/step < first || i/step >= end) {
				t.Errorf("Blocks of %s: %d, %d, but there is an entry in the block %d", brief(f, r), first, end, i/step)
			}
		}
		blocks := map[int]bool{}
		for _, key := range append(append([]string{r.Low}, f.Marks...), bounds...) {
			if in, _ := keys.In(r, key); in {
				n, _ := fence.Block(f, key)
				blocks[n] = true
			}
		}
		for n := range len(f.Marks) + 1 {
			if blocks[n] != (n >= first && n < end) {
				t.Errorf("Blocks of %s: %d, %d, but the block %d is one of the range: %v", brief(f, r), first, end, n, blocks[n])
			}
		}
	}
}

// P7.6: two fences that fit a list, with the same step, need not be equal, but find the same.
func TestFindSame(t *testing.T) {
	d, differ := &dice{8}, 0
	for _, l := range someLists() {
		if len(l) > 200 {
			continue
		}
		for _, step := range someSteps() {
			f, g := d.fitting(l, step), d.fitting(l, step)
			if !sameFence(f, g) {
				differ++
			}
			for _, key := range someKeys() {
				a, e := fence.Find(f, l, key)
				b, we := fence.Find(g, l, key)
				checkOne(t, "Find", a, e, b, we, f, g, l, key)
			}
		}
	}
	if differ == 0 {
		t.Error("all fences were equal")
	}
}

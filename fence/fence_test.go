package fence_test

import (
	"slices"
	"testing"

	"bookend/api"
	"bookend/fence"
)

// P7.1 to P7.3: the examples of the chapter.
func TestExamples(t *testing.T) {
	l := list("aa", "ab", "b", "bcd", "bce")
	f, e := fence.Make(l, 2)
	checkFence(t, f, e, of(2, "b", "bce"), api.OK, l, 2)
	size, e := fence.Size(f)
	checkOne(t, "Size", size, e, 4, api.OK, f)
	for key, want := range map[string]int{"aa": 0, "azz": 0, "ab": 0, "b": 1, "bcd": 1, "bce": 2, "z": 2} {
		n, e := fence.Block(f, key)
		checkOne(t, "Block", n, e, want, api.OK, f, key)
	}
	first, end, e := fence.Span(f, 5, "b")
	checkTwo(t, "Span", first, end, e, 2, 4, api.OK, f, 5, "b")
	first, end, e = fence.Span(f, 5, "z")
	checkTwo(t, "Span", first, end, e, 4, 5, api.OK, f, 5, "z")
	first, end, e = fence.Span(f, 7, "b")
	checkTwo(t, "Span", first, end, e, 0, 0, api.ErrForm, f, 7, "b")
	first, end, e = fence.Blocks(f, upTo("ab", "b"))
	checkTwo(t, "Blocks", first, end, e, 0, 1, api.OK, f)
	first, end, e = fence.Blocks(f, from("c"))
	checkTwo(t, "Blocks", first, end, e, 2, 3, api.OK, f)
	at, e := fence.Find(f, l, "bcd")
	checkOne(t, "Find", at, e, 3, api.OK, f, l, "bcd")
	at, e = fence.Find(f, l, "bcc")
	checkOne(t, "Find", at, e, 0, api.ErrNone, f, l, "bcc")
	is, e := fence.Fits(of(2, "abb", "bce"), l)
	checkOne(t, "Fits", is, e, true, api.OK, l)
	is, e = fence.Fits(of(2, "b", "bcf"), l)
	checkOne(t, "Fits", is, e, false, api.OK, l)
}

// someLists returns ascending lists: of all lengths up to some, of keys that are near to each other, and of 4999 and 5000 entries.
func someLists() [][]api.Entry {
	l := [][]api.Entry{nil, {}, list(numbered(4999)...), list(numbered(5000)...), list(numbered(5000)[1:]...)}
	edges := edgeKeys()
	for n := range edges {
		l = append(l, list(edges[:n+1]...), list(edges[n:]...))
	}
	for _, n := range []int{63, 64, 65, 127, 128, 129, 130, 1000} {
		l = append(l, list(numbered(n)...))
	}
	d := &dice{1}
	for range 60 {
		l = append(l, list(d.some(edges, 2)...), list(d.some(allOf("\x00a\xff", 4), 3)...))
	}
	return l
}

// someSteps returns steps.
func someSteps() []int { return []int{1, 2, 3, 4, 5, 7, 32, 63, 64} }

// P7.1, Make: lists of all kinds and lengths, with all steps: a mark for each block but the first one.
func TestMake(t *testing.T) {
	for _, l := range someLists() {
		for _, step := range someSteps() {
			f, e := fence.Make(l, step)
			checkFence(t, f, e, fenceOf(l, step), api.OK, l, step)
			if _, e := fence.Check(f); e != api.OK {
				t.Errorf("Make of %s: no fence: %d", brief(l, step), e)
			}
		}
	}
	l := list(numbered(200)...)
	for step := 1; step <= 64; step++ {
		f, e := fence.Make(l, step)
		checkFence(t, f, e, fenceOf(l, step), api.OK, l, step)
	}
}

// P7.1, Make: all pairs of keys that have a block each.
func TestMakePairs(t *testing.T) {
	keys := append(edgeKeys(), allOf("\x00\x01a\xfe\xff", 3)...)
	for _, a := range keys {
		for _, b := range keys {
			if under(a, b) {
				f, e := fence.Make(list(a, b), 1)
				checkFence(t, f, e, of(1, between(a, b)), api.OK, a, b)
			}
		}
	}
}

// P7.1, Make: the error of the list comes first, then that of the step.
func TestMakeErrors(t *testing.T) {
	for _, l := range append(wrongLists(), someLists()...) {
		for _, step := range append(wrongSteps(), 1, 64) {
			f, e := fence.Make(l, step)
			want := firstErr(listErr(l), stepErr(step))
			if want != api.OK {
				checkFence(t, f, e, api.FeFence{}, want, l, step)
			}
		}
	}
}

// P7.1, Check: what is a fence, up to 4999 marks.
func TestCheck(t *testing.T) {
	full := numbered(4999)
	for step := 1; step <= 64; step++ {
		for _, marks := range [][]string{nil, {}, {""}, {"", "\x00"}, {"a"}, {"a", "ab", "b"}, edgeKeys(), full[:64], full[:4998], full} {
			n, e := fence.Check(of(step, marks...))
			checkOne(t, "Check", n, e, 0, api.OK, step, marks)
		}
	}
}

// P7.1, Check: what is none: the step comes first, then how many marks there are, then the first mark that is wrong.
func TestCheckErrors(t *testing.T) {
	seen := map[api.Errno]int{}
	for _, f := range wrongFences() {
		want, we := fenceErr(f)
		n, e := fence.Check(f)
		checkOne(t, "Check", n, e, want, we, f)
		seen[e]++
	}
	for _, e := range []api.Errno{api.ErrLong, api.ErrForm, api.ErrRange} {
		if seen[e] == 0 {
			t.Errorf("the error %d was not seen", e)
		}
	}
}

// P7.1, Check: all short rows of marks.
func TestCheckRows(t *testing.T) {
	some := []string{"", "a", "a\x00", "ab", "b", "\x7f", "\x80", repeat("\xff", 32), repeat("\xff", 33), repeat("a", 33)}
	var grow func(marks []string)
	grow = func(marks []string) {
		f := of(3, marks...)
		want, we := fenceErr(f)
		n, e := fence.Check(f)
		checkOne(t, "Check", n, e, want, we, f)
		for _, m := range some {
			if len(marks) < 4 {
				grow(append(slices.Clip(marks), m))
			}
		}
	}
	grow(nil)
}

// P7.1: all functions with a fence return the error of Check before each other one, and nothing else.
func TestFenceErrorFirst(t *testing.T) {
	for _, f := range wrongFences() {
		we := errOf(f)
		size, e := fence.Size(f)
		checkOne(t, "Size", size, e, 0, we, f)
		for _, l := range [][]api.Entry{nil, list("a", "b", "c"), list("b", "a")} {
			is, e := fence.Fits(f, l)
			checkOne(t, "Fits", is, e, false, we, f, l)
			for _, key := range []string{"", "a", repeat("k", 33)} {
				at, e := fence.Find(f, l, key)
				checkOne(t, "Find", at, e, 0, we, f, l, key)
			}
		}
		for _, key := range []string{"", "a", repeat("k", 33)} {
			n, e := fence.Block(f, key)
			checkOne(t, "Block", n, e, 0, we, f, key)
			for _, n := range []int{0, 3, len(f.Marks) + 1, -1, 5001} {
				first, end, e := fence.Span(f, n, key)
				checkTwo(t, "Span", first, end, e, 0, 0, we, f, n, key)
			}
		}
		for _, r := range append(wrongRanges(), api.KeRange{}, from("a"), upTo("a", "b"), upTo("b", "a")) {
			first, end, e := fence.Blocks(f, r)
			checkTwo(t, "Blocks", first, end, e, 0, 0, we, f, r)
		}
	}
}

// P7.1, Fits: all lists of some keys, with all fences of some marks, and with steps that make one block, or more.
func TestFits(t *testing.T) {
	keys := []string{"", "a", "a\x00", "ab", "b", "\xff"}
	marks := append(keys, "aa", "\x00", "\x80")
	slices.SortFunc(marks, func(a, b string) int { return slices.Compare([]byte(a), []byte(b)) })
	fits := 0
	for bits := range 1 << len(keys) {
		l := list(chosen(keys, bits)...)
		for mask := range 1 << len(marks) {
			f := of(1, chosen(marks, mask)...)
			for _, step := range []int{1, 2, 3, 5, 6, 64} {
				f.Step = step
				is, e := fence.Fits(f, l)
				checkOne(t, "Fits", is, e, fitsList(f, l), api.OK, f, l)
				if is {
					fits++
				}
			}
		}
	}
	if fits < 500 {
		t.Errorf("only %d fit", fits)
	}
}

// chosen returns those of the strings whose bits are set.
func chosen(l []string, bits int) []string {
	var out []string
	for i, s := range l {
		if bits>>i&1 == 1 {
			out = append(out, s)
		}
	}
	return out
}

// P7.1, Fits: lists of many blocks, with one mark that is wrong, missing, or too many.
func TestFitsMany(t *testing.T) {
	d := &dice{2}
	for _, n := range []int{2, 9, 64, 65, 300} {
		l := list(numbered(n)...)
		for _, step := range someSteps() {
			f := d.fitting(l, step)
			is, e := fence.Fits(f, l)
			checkOne(t, "Fits", is, e, true, api.OK, f, l)
			for i := range f.Marks {
				border := (i + 1) * step
				for _, m := range []string{l[border-1].Key, l[border].Key, l[border].Key + "\x00", between(l[border-1].Key, l[border].Key)} {
					g := of(step, slices.Clone(f.Marks)...)
					g.Marks[i] = m
					is, e := fence.Fits(g, l)
					checkOne(t, "Fits", is, e, fitsList(g, l), errOf(g), g, l)
				}
				is, e := fence.Fits(of(step, slices.Delete(slices.Clone(f.Marks), i, i+1)...), l)
				checkOne(t, "Fits", is, e, false, api.OK, f, l, i)
			}
			is, e = fence.Fits(of(step, append(slices.Clone(f.Marks), "\xff")...), l)
			checkOne(t, "Fits", is, e, false, api.OK, f, l)
		}
	}
}

// P7.1, Fits: the longest list, with as many marks as there may be.
func TestFitsLongest(t *testing.T) {
	keys := numbered(5000)
	l := list(keys...)
	for _, c := range []struct {
		f    api.FeFence
		l    []api.Entry
		want bool
	}{
		{of(1, keys[1:]...), l, true}, {of(1, keys[:4999]...), l, false}, {of(1, keys[1:4999]...), l, false}, {of(1, keys[1:]...), l[:4999], false}, {of(1, keys[1:4999]...), l[:4999], true}, {of(2, keys[1:]...), l, false},
	} {
		is, e := fence.Fits(c.f, c.l)
		checkOne(t, "Fits", is, e, c.want, api.OK, c.f, len(c.l))
	}
}

// P7.1, Fits: the error of the list, also if there are not as many marks as blocks.
func TestFitsErrors(t *testing.T) {
	for _, l := range wrongLists() {
		for _, f := range []api.FeFence{of(1), of(64), of(2, "a"), of(1, "a", "b")} {
			is, e := fence.Fits(f, l)
			checkOne(t, "Fits", is, e, false, listErr(l), f, l)
		}
	}
}

// P7.3, Size: the bytes of all marks.
func TestSize(t *testing.T) {
	longest := numbered(4999)
	for i := range longest {
		longest[i] += repeat("x", 30)
	}
	for _, c := range []struct {
		f    api.FeFence
		want int
	}{
		{of(1), 0}, {of(64, ""), 0}, {of(2, "a"), 1}, {of(2, "", "a", "bc"), 3}, {of(3, "é"), 2}, {of(3, "\x00\x00", "\xff"), 3}, {of(3, repeat("\xff", 32)), 32}, {of(1, numbered(4999)...), 9998}, {of(64, longest...), 4999 * 32},
	} {
		n, e := fence.Size(c.f)
		checkOne(t, "Size", n, e, c.want, api.OK, c.f)
	}
}

// P7.5: the fence of a list fits it. A fence that fits it has, at each place, a mark that is longer, or as long and not less.
func TestShort(t *testing.T) {
	d := &dice{3}
	for _, l := range someLists() {
		if len(l) > 1000 {
			continue
		}
		for _, step := range someSteps() {
			f, _ := fence.Make(l, step)
			is, e := fence.Fits(f, l)
			checkOne(t, "Fits", is, e, true, api.OK, f, l)
			for range 5 {
				g := d.fitting(l, step)
				is, e := fence.Fits(g, l)
				checkOne(t, "Fits", is, e, true, api.OK, g, l)
				for i, m := range g.Marks {
					if len(m) < len(f.Marks[i]) || len(m) == len(f.Marks[i]) && under(m, f.Marks[i]) {
						t.Errorf("Make of %s: the mark %q, but %q fits", brief(l, step), f.Marks[i], m)
					}
				}
			}
		}
	}
}

// P7.5: no mark of up to two bytes fits that is shorter, or as short and less: of all there are.
func TestShortest(t *testing.T) {
	few := []byte{0, 1, 'a', 'b', 254, 255}
	keys := allOf(string(few), 2)
	var all []string
	for x := range 256 {
		all = append(all, string([]byte{byte(x)}))
		for _, y := range few {
			all = append(all, string([]byte{byte(x), y}), string([]byte{y, byte(x)}))
		}
	}
	all = append(all, "")
	for i, a := range keys {
		for _, b := range keys[i+1:] {
			f, _ := fence.Make(list(a, b), 1)
			for _, m := range all {
				if len(m) < len(f.Marks[0]) || len(m) == len(f.Marks[0]) && under(m, f.Marks[0]) {
					is, e := fence.Fits(of(1, m), list(a, b))
					checkOne(t, "Fits", is, e, false, api.OK, m, a, b, f)
				}
			}
		}
	}
}

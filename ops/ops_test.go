package ops_test

import (
	"math"
	"strings"
	"testing"

	"bookend/api"
	"bookend/ops"
)

// P4.1 and P4.6, Name and Kind: the 17 words, and Kind of Name.
func TestNames(t *testing.T) {
	many := 0
	for kind := -300; kind < 300; kind++ {
		want, we := "", api.ErrArg
		if kind >= 1 && kind <= 17 {
			want, we = names[kind], api.OK
		}
		s, e := ops.Name(kind)
		if s != want || e != we {
			t.Errorf("Name of %d: %q, %d, want %q, %d", kind, s, e, want, we)
		}
		if e == api.OK {
			many++
			if n, e := ops.Kind(s); n != kind || e != api.OK {
				t.Errorf("Kind of %s: %d, %d, want %d", s, n, e, kind)
			}
		}
	}
	if many != 17 {
		t.Errorf("%d kinds", many)
	}
	for _, kind := range []int{math.MinInt, math.MaxInt, 1 << 32, 1<<32 + 1, 256, 257} {
		if s, e := ops.Name(kind); s != "" || e != api.ErrArg {
			t.Errorf("Name of %d: %q, %d", kind, s, e)
		}
	}
}

// P4.1, Kind: what is no word of a kind, also all that differs from one in one byte.
func TestNoKind(t *testing.T) {
	wrong := func(word string) {
		if n, e := ops.Kind(word); n != 0 || e != api.ErrNone {
			t.Errorf("Kind of %q: %d, %d", word, n, e)
		}
	}
	for _, word := range []string{"", " ", "\x00", "0", "1", "none", "answer", "item", "puts", "pu", "\"put\"", "put del", "PUT", "Put", repeat("put", 1<<18)} {
		wrong(word)
	}
	for _, name := range names[1:] {
		for _, word := range []string{name + " ", " " + name, name + "\n", name + name, strings.ToUpper(name), name[1:], name[:len(name)-1]} {
			wrong(word)
		}
		for at := range len(name) {
			for c := range 256 {
				if byte(c) != name[at] {
					wrong(name[:at] + string([]byte{byte(c)}) + name[at+1:])
				}
			}
		}
	}
}

// P4.1, Write: the kinds that write, also if an operation is wrong otherwise.
func TestWrite(t *testing.T) {
	for kind := -20; kind < 40; kind++ {
		want := kind == 1 || kind == 2 || kind == 3
		for _, c := range []api.OpCall{{Kind: kind}, {Kind: kind, Grant: -1}, {Kind: kind, Key: "a", Val: "b", Handle: api.Handle{Index: 1}}, {Kind: kind, Writes: make([]api.OpWrite, 20)}} {
			if ops.Write(c) != want {
				t.Errorf("Write of %s: %v", brief(c), !want)
			}
		}
	}
}

// checkCheck checks Check.
func checkCheck(t *testing.T, c api.OpCall) {
	t.Helper()
	if e, want := ops.Check(c), errOf(c); e != want {
		t.Errorf("Check of %s: %d, want %d", brief(c), e, want)
	}
}

// P4.1, Check: the limits of 10^6, 10^9, 100 and 8, just kept and just broken.
func TestCheckLimits(t *testing.T) {
	k100, k101 := repeat("k", 100), repeat("\xff", 101)
	many := func(n int, w api.OpWrite) []api.OpWrite {
		var l []api.OpWrite
		for range n {
			l = append(l, w)
		}
		return l
	}
	for i, x := range []struct {
		c    api.OpCall
		want api.Errno
	}{
		{api.OpCall{Kind: 8, Grant: 1000000}, api.OK}, {api.OpCall{Kind: 8, Grant: 1000001}, api.ErrRange}, {api.OpCall{Kind: 15, Grant: -1}, api.ErrRange}, {api.OpCall{Kind: 15, Grant: math.MaxInt}, api.ErrRange}, {api.OpCall{Kind: 15, Grant: math.MinInt}, api.ErrRange}, {api.OpCall{Kind: 15, Grant: 1 << 32}, api.ErrRange}, {api.OpCall{Kind: 17, Grant: 100}, api.OK},
		{api.OpCall{Kind: 9, Handle: api.Handle{Index: 1000000000, Gen: 1000000000}}, api.OK}, {api.OpCall{Kind: 9, Handle: api.Handle{Index: 1000000001}}, api.ErrRange}, {api.OpCall{Kind: 9, Handle: api.Handle{Gen: 1000000001}}, api.ErrRange}, {api.OpCall{Kind: 9, Handle: api.Handle{Index: -1}}, api.ErrRange}, {api.OpCall{Kind: 9, Handle: api.Handle{Gen: -1}}, api.ErrRange}, {api.OpCall{Kind: 9, Handle: api.Handle{Gen: 5}}, api.OK}, {api.OpCall{Kind: 9, Handle: api.Handle{Index: math.MaxInt}}, api.ErrRange}, {api.OpCall{Kind: 9, Handle: api.Handle{Index: 1 << 32}}, api.ErrRange},
		{api.OpCall{Kind: 14, Other: api.Handle{Index: 1000000000, Gen: 1000000000}}, api.OK}, {api.OpCall{Kind: 14, Other: api.Handle{Index: -1}}, api.ErrRange}, {api.OpCall{Kind: 14, Other: api.Handle{Gen: 1000000001}}, api.ErrRange},
		{api.OpCall{Kind: 1, Key: k100, Val: k100}, api.OK}, {api.OpCall{Kind: 1, Key: k101}, api.ErrLong}, {api.OpCall{Kind: 1, Val: k101}, api.ErrLong}, {api.OpCall{Kind: 2, Key: k101}, api.ErrLong}, {api.OpCall{Kind: 4, Key: k100}, api.OK}, {api.OpCall{Kind: 4, Key: k101}, api.ErrLong}, {api.OpCall{Kind: 5, Key: k101}, api.ErrLong}, {api.OpCall{Kind: 6, Key: repeat("k", 1<<20)}, api.ErrLong}, {api.OpCall{Kind: 1, Key: repeat("é", 50)}, api.OK}, {api.OpCall{Kind: 1, Key: repeat("é", 51)}, api.ErrLong},
		{api.OpCall{Kind: 7, Range: api.KeRange{Low: k100, High: k100, Bound: true}}, api.OK}, {api.OpCall{Kind: 7, Range: api.KeRange{Low: k101}}, api.ErrLong}, {api.OpCall{Kind: 10, Range: api.KeRange{High: k101, Bound: true}}, api.ErrLong}, {api.OpCall{Kind: 10, Range: api.KeRange{High: k101}}, api.ErrLong}, {api.OpCall{Kind: 10, Range: api.KeRange{High: k100}}, api.ErrForm}, {api.OpCall{Kind: 7, Range: api.KeRange{Bound: true}}, api.OK}, {api.OpCall{Kind: 7, Range: api.KeRange{Low: "b", High: "a", Bound: true}}, api.OK},
		{api.OpCall{Kind: 3, Writes: many(8, api.OpWrite{Key: k100, Val: k100})}, api.OK}, {api.OpCall{Kind: 3, Writes: many(9, api.OpWrite{})}, api.ErrLong}, {api.OpCall{Kind: 3, Writes: many(1, api.OpWrite{})}, api.OK}, {api.OpCall{Kind: 3, Writes: many(0, api.OpWrite{})}, api.ErrNone}, {api.OpCall{Kind: 3, Writes: []api.OpWrite{}}, api.ErrNone}, {api.OpCall{Kind: 3, Writes: make([]api.OpWrite, 1<<16)}, api.ErrLong}, {api.OpCall{Kind: 3, Writes: append(many(7, api.OpWrite{}), api.OpWrite{Key: k101})}, api.ErrLong}, {api.OpCall{Kind: 3, Writes: append(many(7, api.OpWrite{}), api.OpWrite{Val: k101})}, api.ErrLong},
		{api.OpCall{Kind: 3, Writes: many(8, api.OpWrite{Key: k100, Dead: true})}, api.OK}, {api.OpCall{Kind: 3, Writes: append(many(7, api.OpWrite{}), api.OpWrite{Val: "x", Dead: true})}, api.ErrForm}, {api.OpCall{Kind: 3, Writes: many(9, api.OpWrite{Val: "x", Dead: true})}, api.ErrLong}, {api.OpCall{Kind: 3, Writes: many(2, api.OpWrite{Key: "a", Val: "x"})}, api.OK}, {api.OpCall{Kind: 3, Writes: many(1, api.OpWrite{Val: k101, Dead: true})}, api.ErrLong},
		{api.OpCall{Kind: 1, Writes: []api.OpWrite{}}, api.OK}, {api.OpCall{Kind: 1, Writes: many(1, api.OpWrite{})}, api.ErrForm}, {api.OpCall{Kind: 1, Writes: make([]api.OpWrite, 1<<16)}, api.ErrForm},
	} {
		if e := ops.Check(x.c); e != x.want {
			t.Errorf("%d: Check: %d, want %d", i, e, x.want)
		}
		checkCheck(t, x.c)
	}
}

// P4.1, Check: all operations of these parts, of all kinds, and of what is none; so each error comes before each later one.
func TestCheckAll(t *testing.T) {
	handles := []api.Handle{{}, {Index: 1, Gen: 2}, {Index: -1}, {Gen: 1000000001}}
	ranges := []api.KeRange{{}, {Bound: true}, {Low: "b", High: "a", Bound: true}, {High: "a"}, {Low: repeat("k", 101)}, {High: repeat("k", 101)}}
	writes := [][]api.OpWrite{nil, {}, {{Key: "a", Val: "x"}, {Key: "b", Dead: true}}, {{Val: "x", Dead: true}}, make([]api.OpWrite, 9), {{Val: "x", Dead: true}, {Key: repeat("k", 101)}}}
	seen := map[api.Errno]int{}
	for kind := 0; kind <= 18; kind++ {
		for _, grant := range []int{0, 1000000, -1, 1000001} {
			for _, key := range []string{"", "k", repeat("k", 101)} {
				for _, val := range []string{"", repeat("k", 101)} {
					for _, r := range ranges {
						for _, handle := range handles {
							for _, other := range handles {
								for _, w := range writes {
									c := api.OpCall{Kind: kind, Grant: grant, Key: key, Val: val, Range: r, Handle: handle, Other: other, Writes: w}
									want := errOf(c)
									seen[want]++
									if e := ops.Check(c); e != want {
										t.Errorf("Check of %s: %d, want %d", brief(c), e, want)
									}
								}
							}
						}
					}
				}
			}
		}
	}
	for _, e := range []api.Errno{api.OK, api.ErrArg, api.ErrRange, api.ErrForm, api.ErrLong, api.ErrNone} {
		if seen[e] < 4 {
			t.Errorf("error %d was seen %d times", e, seen[e])
		}
	}
}

// P4.1, Check: operations of each kind, each with one part that this kind does not have.
func TestCheckParts(t *testing.T) {
	d := &dice{1}
	for kind := 1; kind <= 17; kind++ {
		for range 200 {
			c := d.call(kind)
			if e := ops.Check(c); e != api.OK {
				t.Errorf("Check of %s: %d", brief(c), e)
			}
			for other := 1; other <= 17; other++ {
				c.Kind = other
				checkCheck(t, c)
			}
			for i := range 10 {
				c := c
				c.Kind = kind
				*[]*string{&c.Key, &c.Val, &c.Range.Low, &c.Range.High, new(string)}[i%5] = repeat("a", d.roll(3)*50)
				*[]*int{&c.Handle.Index, &c.Handle.Gen, &c.Other.Index, &c.Other.Gen, &c.Grant}[i/2] = d.roll(3) - 1
				c.Range.Bound = c.Range.Bound != (i == 9)
				checkCheck(t, c)
			}
		}
	}
}

package model_test

import (
	"math"
	"slices"
	"testing"

	"bookend/api"
	"bookend/model"
)

// modelOf returns a model whose head has these pairs.
func modelOf(t *testing.T, m []api.Pair) *model.Model {
	t.Helper()
	x := model.New()
	for part := range slices.Chunk(m, 8) {
		var l []api.OpWrite
		for _, p := range part {
			l = append(l, put(p.Key, p.Val))
		}
		checkErr(t, "Write", x.Write(l), api.OK)
	}
	return x
}

// checkMap checks Map.
func checkMap(t *testing.T, x *model.Model, h api.Handle, want []api.Pair, we api.Errno) {
	t.Helper()
	m, e := x.Map(h)
	checkPairs(t, "Map", m, e, want, we, h)
}

// checkPin checks Pin, and checkOpen Open.
func checkPin(t *testing.T, x *model.Model, want api.Handle, we api.Errno) {
	t.Helper()
	if h, e := x.Pin(); h != want || e != we {
		t.Errorf("Pin: %v, %d, want %v, %d", h, e, want, we)
	}
}

func checkOpen(t *testing.T, x *model.Model, h api.Handle, r api.KeRange, want api.Handle, we api.Errno) {
	t.Helper()
	if c, e := x.Open(h, r); c != want || e != we {
		t.Errorf("Open of %v, %v: %v, %d, want %v, %d", h, r, c, e, want, we)
	}
}

// checkLive checks Live.
func checkLive(t *testing.T, x *model.Model, pins, cursors []api.Handle) {
	t.Helper()
	if p, c := x.Live(); !slices.Equal(p, pins) || !slices.Equal(c, cursors) {
		t.Errorf("Live: %v, %v, want %v, %v", p, c, pins, cursors)
	}
}

// handles returns handles of all indices up to most, of one generation.
func handles(most, gen int) []api.Handle {
	var l []api.Handle
	for i := range most {
		l = append(l, handle(i+1, gen))
	}
	return l
}

// badHandles are none, as long as no index was given more often than gen times, nor any but those up to most.
func badHandles(most, gen int) []api.Handle {
	return []api.Handle{handle(0, 1), handle(0, -1), handle(-1, 0), handle(-1, 1), handle(1, 0), handle(1, -1), handle(1, gen+1), handle(most, gen+1), handle(most+1, 0), handle(most+1, 1), handle(17, 1), handle(math.MaxInt, 1), handle(math.MinInt, 1), handle(math.MinInt, math.MinInt), handle(1, math.MaxInt), handle(1, math.MinInt)}
}

// P5.4: a new model has no pairs, and no handles.
func TestNew(t *testing.T) {
	x := model.New()
	checkMap(t, x, handle(0, 0), nil, api.OK)
	checkLive(t, x, nil, nil)
	for _, h := range append(badHandles(1, 0), handle(1, 1)) {
		checkMap(t, x, h, nil, api.ErrNone)
		checkErr(t, "Unpin", x.Unpin(h), api.ErrNone, h)
		checkErr(t, "Shut", x.Shut(h), api.ErrNone, h)
		checkOpen(t, x, h, from(""), handle(0, 0), api.ErrNone)
	}
}

// P5.4, P5.5: the examples of the chapter.
func TestModelExamples(t *testing.T) {
	m := pairs("a", "1", "c", "3")
	x := modelOf(t, m)
	checkPin(t, x, handle(1, 1), api.OK)
	checkPin(t, x, handle(2, 1), api.OK)
	checkErr(t, "Unpin", x.Unpin(handle(1, 1)), api.OK)
	checkPin(t, x, handle(1, 2), api.OK)
	checkMap(t, x, handle(1, 1), nil, api.ErrStale)
	checkMap(t, x, handle(3, 1), nil, api.ErrNone)
	checkMap(t, x, handle(1, 2), m, api.OK)
	checkOpen(t, x, handle(0, 0), from(""), handle(1, 1), api.OK)
	for i, s := range []struct {
		next bool
		want api.Pair
		e    api.Errno
	}{{true, m[0], api.OK}, {true, m[1], api.OK}, {true, api.Pair{}, api.ErrEnd}, {false, m[1], api.OK}, {false, m[0], api.OK}, {false, api.Pair{}, api.ErrEnd}, {true, m[0], api.OK}} {
		step := x.Prev
		if s.next {
			step = x.Next
		}
		p, e := step(handle(1, 1))
		checkPair(t, "step", p, e, s.want, s.e, i)
	}
}

// P5.4, Write: what the function does, with the head; with an error nothing changes.
func TestModelWrite(t *testing.T) {
	full := numbered("", 4000)
	for i, m := range [][]api.Pair{nil, pairs("a", "1"), pairs("a", "1", "c", "3"), full} {
		x := modelOf(t, m)
		checkPin(t, x, handle(1, 1), api.OK)
		for _, l := range append(wrongBatches(), batch(put("a", "9")), batch(put("b", ""), del("a")), batch(put("x", ""), put("y", "")), batch(del("0000"), put("x", "")), batch(put("x", ""), del("c"), del("c"))) {
			want, we := model.Write(m, l)
			checkErr(t, "Write", x.Write(l), we, i, l)
			if we == api.OK {
				m = want
			}
			checkMap(t, x, handle(0, 0), m, api.OK)
		}
	}
}

// P5.4: 16 pins, and no more; each index has its own generations, and the least free one is given.
func TestPins(t *testing.T) {
	x := modelOf(t, pairs("a", "1"))
	for _, h := range handles(16, 1) {
		checkPin(t, x, h, api.OK)
	}
	checkPin(t, x, handle(0, 0), api.ErrFull)
	checkLive(t, x, handles(16, 1), nil)
	for _, h := range badHandles(16, 1) {
		checkErr(t, "Unpin", x.Unpin(h), api.ErrNone, h)
		checkMap(t, x, h, nil, api.ErrNone)
	}
	for _, i := range []int{16, 3, 9} {
		checkErr(t, "Unpin", x.Unpin(handle(i, 1)), api.OK, i)
		checkErr(t, "Unpin", x.Unpin(handle(i, 1)), api.ErrStale, i)
		checkErr(t, "Unpin", x.Unpin(handle(i, 2)), api.ErrNone, i)
	}
	checkPin(t, x, handle(3, 2), api.OK)
	checkErr(t, "Unpin", x.Unpin(handle(1, 1)), api.OK)
	checkPin(t, x, handle(1, 2), api.OK)
	checkPin(t, x, handle(9, 2), api.OK)
	checkPin(t, x, handle(16, 2), api.OK)
	checkPin(t, x, handle(0, 0), api.ErrFull)
	for gen := 2; gen < 200; gen++ {
		checkErr(t, "Unpin", x.Unpin(handle(9, gen)), api.OK, gen)
		checkMap(t, x, handle(9, gen), nil, api.ErrStale)
		checkMap(t, x, handle(9, gen+1), nil, api.ErrNone)
		checkPin(t, x, handle(9, gen+1), api.OK)
		checkMap(t, x, handle(9, 1), nil, api.ErrStale)
		checkMap(t, x, handle(9, gen), nil, api.ErrStale)
		checkMap(t, x, handle(9, gen+1), pairs("a", "1"), api.OK)
	}
}

// P5.5: 16 cursors, and no more; they are numbered apart from pins.
func TestCursors(t *testing.T) {
	x, head := modelOf(t, pairs("a", "1")), handle(0, 0)
	checkPin(t, x, handle(1, 1), api.OK)
	for i, h := range handles(16, 1) {
		checkOpen(t, x, handle(i%2, i%2), from(""), h, api.OK)
	}
	checkOpen(t, x, head, from(""), head, api.ErrFull)
	checkLive(t, x, handles(1, 1), handles(16, 1))
	checkPin(t, x, handle(2, 1), api.OK)
	for _, h := range append(badHandles(16, 1), head) {
		_, e := x.Next(h)
		checkErr(t, "Next", e, api.ErrNone, h)
		_, e = x.Prev(h)
		checkErr(t, "Prev", e, api.ErrNone, h)
		checkErr(t, "Shut", x.Shut(h), api.ErrNone, h)
	}
	for _, i := range []int{16, 2, 7} {
		h := handle(i, 1)
		checkErr(t, "Shut", x.Shut(h), api.OK, h)
		checkErr(t, "Shut", x.Shut(h), api.ErrStale, h)
		_, e := x.Next(h)
		checkErr(t, "Next", e, api.ErrStale, h)
		_, e = x.Prev(h)
		checkErr(t, "Prev", e, api.ErrStale, h)
	}
	checkOpen(t, x, handle(2, 1), upTo("b", "a"), handle(2, 2), api.OK)
	checkErr(t, "Unpin", x.Unpin(handle(2, 1)), api.OK)
	checkOpen(t, x, handle(2, 1), from(""), head, api.ErrStale)
	checkErr(t, "Shut", x.Shut(handle(1, 1)), api.OK)
	checkOpen(t, x, head, from(""), handle(1, 2), api.OK)
	checkOpen(t, x, head, from(""), handle(7, 2), api.OK)
	checkOpen(t, x, head, from(""), handle(16, 2), api.OK)
	checkOpen(t, x, head, from(""), head, api.ErrFull)
	checkLive(t, x, handles(1, 1), append(append(append(handles(1, 2), handle(2, 2)), handles(16, 1)[2:6]...), append(append([]api.Handle{handle(7, 2)}, handles(16, 1)[7:15]...), handle(16, 2))...))
}

// checkZero checks that the zero handle names the head, but no pin, and no cursor.
func checkZero(t *testing.T, x *model.Model, head []api.Pair) {
	t.Helper()
	zero := api.Handle{}
	checkMap(t, x, zero, head, api.OK)
	checkErr(t, "Unpin", x.Unpin(zero), api.ErrNone)
	checkErr(t, "Shut", x.Shut(zero), api.ErrNone)
	_, e := x.Next(zero)
	checkErr(t, "Next", e, api.ErrNone)
	_, e = x.Prev(zero)
	checkErr(t, "Prev", e, api.ErrNone)
}

// P5.4, P5.5: the zero handle is no pin, and no cursor: before there are some, with them, and after them.
func TestZeroHandle(t *testing.T) {
	m := pairs("a", "1")
	x := modelOf(t, m)
	checkZero(t, x, m)
	checkPin(t, x, handle(1, 1), api.OK)
	checkOpen(t, x, handle(0, 0), from(""), handle(1, 1), api.OK)
	checkZero(t, x, m)
	checkErr(t, "Unpin", x.Unpin(handle(1, 1)), api.OK)
	checkErr(t, "Shut", x.Shut(handle(1, 1)), api.OK)
	checkZero(t, x, m)
}

// P5.5, Open: the error of the version, that of the range, that there are 16 cursors, in this order.
func TestOpenErrors(t *testing.T) {
	long, bad := from(repeat("k", 33)), wrong("", "a")
	x, head := modelOf(t, pairs("a", "1")), handle(0, 0)
	checkPin(t, x, handle(1, 1), api.OK)
	checkPin(t, x, handle(2, 1), api.OK)
	checkErr(t, "Unpin", x.Unpin(handle(1, 1)), api.OK)
	for full := range 2 {
		for _, r := range []api.KeRange{from(""), long, bad, upTo("", repeat("k", 33)), wrong(repeat("k", 33), "a")} {
			checkOpen(t, x, handle(1, 1), r, head, api.ErrStale)
			checkOpen(t, x, handle(1, 2), r, head, api.ErrNone)
			checkOpen(t, x, handle(3, 1), r, head, api.ErrNone)
			checkOpen(t, x, handle(0, 1), r, head, api.ErrNone)
		}
		for _, h := range []api.Handle{head, handle(2, 1)} {
			checkOpen(t, x, h, long, head, api.ErrLong)
			checkOpen(t, x, h, upTo("", repeat("k", 33)), head, api.ErrLong)
			checkOpen(t, x, h, wrong(repeat("k", 33), "a"), head, api.ErrLong)
			checkOpen(t, x, h, bad, head, api.ErrForm)
		}
		checkLive(t, x, []api.Handle{handle(2, 1)}, handles(16, 1)[:16*full])
		for i := 1; i <= 16; i++ {
			if full == 0 {
				checkOpen(t, x, head, from(""), handle(i, 1), api.OK)
			}
			checkOpen(t, x, handle(1, 1), from(""), head, api.ErrStale)
		}
		checkOpen(t, x, head, from(""), head, api.ErrFull)
		checkOpen(t, x, handle(2, 1), upTo("b", "a"), head, api.ErrFull)
	}
}

// walked returns what all Next, or all Prev, of a cursor return until ErrEnd.
func walked(t *testing.T, step func(api.Handle) (api.Pair, api.Errno), h api.Handle) []api.Pair {
	t.Helper()
	var l []api.Pair
	for range 5000 {
		p, e := step(h)
		if e != api.OK {
			checkPair(t, "step", p, e, api.Pair{}, api.ErrEnd, h)
			return l
		}
		l = append(l, p)
	}
	t.Error("a cursor has no end")
	return l
}

// P5.7: Next returns the pairs of the range, Prev the same in the other order, and after a Next the same pair; ErrEnd moves nothing.
func TestWalks(t *testing.T) {
	for _, m := range append(subsets(edgeKeys()[2:8]), numbered("", 100), numbered("a", 4000)) {
		x := modelOf(t, m)
		for _, r := range []api.KeRange{from(""), from("a\x00"), upTo("", "b"), upTo("a", "ab"), upTo("b", "a"), upTo("0020", "0050"), from(repeat("\xff", 32))} {
			want, _ := partOf(m, r)
			c, e := x.Open(handle(0, 0), r)
			checkErr(t, "Open", e, api.OK, r)
			for range 2 {
				checkPairs(t, "all Next", walked(t, x.Next, c), api.OK, want, api.OK, m, r)
				checkPairs(t, "Next at the end", walked(t, x.Next, c), api.OK, nil, api.OK, m, r)
				back := walked(t, x.Prev, c)
				slices.Reverse(back)
				checkPairs(t, "all Prev, turned round", back, api.OK, want, api.OK, m, r)
				checkPairs(t, "Prev at the beginning", walked(t, x.Prev, c), api.OK, nil, api.OK, m, r)
			}
			for _, p := range want {
				for _, step := range []func(api.Handle) (api.Pair, api.Errno){x.Next, x.Prev, x.Next} {
					got, e := step(c)
					checkPair(t, "a step there, back, and there", got, e, p, api.OK, m, r)
				}
			}
			checkErr(t, "Shut", x.Shut(c), api.OK)
		}
	}
}

// P5.5: cursors have places of their own, also two of the same version and range.
func TestPlaces(t *testing.T) {
	m := pairs("a", "1", "b", "2", "c", "3")
	x := modelOf(t, m)
	for _, h := range handles(3, 1) {
		checkOpen(t, x, handle(0, 0), from(""), h, api.OK)
	}
	for i, h := range handles(3, 1) {
		for range i {
			_, e := x.Next(h)
			checkErr(t, "Next", e, api.OK, h)
		}
	}
	checkErr(t, "Shut", x.Shut(handle(2, 1)), api.OK)
	checkOpen(t, x, handle(0, 0), from("b"), handle(2, 2), api.OK)
	for i, want := range []api.Pair{m[0], m[1], m[2]} {
		p, e := x.Next(handle(i+1, 1+i%2))
		checkPair(t, "Next", p, e, want, api.OK, i)
	}
}

// P5.6: the map of a pin, and the pairs of a cursor, never change, whatever is written, and whatever is let go.
func TestVersionsKept(t *testing.T) {
	m := pairs("a", "1", "b", "2", "c", "3", "d", "4")
	x := modelOf(t, m)
	checkPin(t, x, handle(1, 1), api.OK)
	checkPin(t, x, handle(2, 1), api.OK)
	checkOpen(t, x, handle(0, 0), from("b"), handle(1, 1), api.OK)
	checkOpen(t, x, handle(1, 1), upTo("", "d"), handle(2, 1), api.OK)
	p, e := x.Next(handle(2, 1))
	checkPair(t, "Next", p, e, m[0], api.OK)
	for _, l := range [][]api.OpWrite{batch(put("a", "9")), batch(del("b")), batch(put("bb", ""), put("", "0")), batch(put("c", "8"), del("d")), batch(del("a"), del("c"), del("bb"), del("")), batch(put("a", "7"), put("b", "7"), put("c", "7"), put("d", "7"), put("e", "7"))} {
		checkErr(t, "Write", x.Write(l), api.OK, l)
		checkMap(t, x, handle(2, 1), m, api.OK)
	}
	checkErr(t, "Unpin", x.Unpin(handle(1, 1)), api.OK)
	checkPin(t, x, handle(1, 2), api.OK)
	checkMap(t, x, handle(1, 2), pairs("a", "7", "b", "7", "c", "7", "d", "7", "e", "7"), api.OK)
	checkMap(t, x, handle(2, 1), m, api.OK)
	checkPairs(t, "Next of the head as it was", walked(t, x.Next, handle(1, 1)), api.OK, m[1:], api.OK)
	checkPairs(t, "Next of a pin that was let go", walked(t, x.Next, handle(2, 1)), api.OK, m[1:3], api.OK)
}

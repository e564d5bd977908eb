package model_test

import (
	"fmt"
	"slices"
	"testing"

	"bookend/api"
	"bookend/model"
)

// A plain is what a model must be: its head, and all pins and cursors that were ever given, one after the other.
type plain struct {
	head          []api.Pair
	pins, cursors []given
}

// A given is a handle, whether it is held, and what it names: pairs, and how many of them are before the place.
type given struct {
	h    api.Handle
	held bool
	m    []api.Pair
	at   int
}

// give returns the list with one more handle.
func give(l []given, m []api.Pair) ([]given, api.Handle, api.Errno) {
	taken, times := map[int]bool{}, map[int]int{}
	for _, g := range l {
		times[g.h.Index]++
		if g.held {
			taken[g.h.Index] = true
		}
	}
	for i := 1; i <= 16; i++ {
		if !taken[i] {
			h := handle(i, times[i]+1)
			return append(l, given{h: h, held: true, m: m}), h, api.OK
		}
	}
	return l, api.Handle{}, api.ErrFull
}

// look returns what the handle names.
func look(l []given, h api.Handle) (*given, api.Errno) {
	for i := range l {
		if l[i].h == h && l[i].held {
			return &l[i], api.OK
		}
		if l[i].h == h {
			return nil, api.ErrStale
		}
	}
	return nil, api.ErrNone
}

// An answer is what a method returned; what it does not have is zero.
type answer struct {
	m             []api.Pair
	h             api.Handle
	p             api.Pair
	pins, cursors []api.Handle
	e             api.Errno
}

// sameAnswer reports whether two answers are equal.
func sameAnswer(a, b answer) bool {
	return slices.Equal(a.m, b.m) && a.h == b.h && a.p == b.p && slices.Equal(a.pins, b.pins) && slices.Equal(a.cursors, b.cursors) && a.e == b.e
}

// A call is a method of a model, and its arguments.
type call struct {
	name string
	l    []api.OpWrite
	h    api.Handle
	r    api.KeRange
}

// names are the methods.
var names = []string{"Write", "Map", "Pin", "Unpin", "Open", "Next", "Prev", "Shut", "Live"}

// ask calls a method of a model.
func ask(x *model.Model, c call) (a answer) {
	switch c.name {
	case "Write":
		a.e = x.Write(c.l)
	case "Map":
		a.m, a.e = x.Map(c.h)
	case "Pin":
		a.h, a.e = x.Pin()
	case "Unpin":
		a.e = x.Unpin(c.h)
	case "Open":
		a.h, a.e = x.Open(c.h, c.r)
	case "Next":
		a.p, a.e = x.Next(c.h)
	case "Prev":
		a.p, a.e = x.Prev(c.h)
	case "Shut":
		a.e = x.Shut(c.h)
	case "Live":
		a.pins, a.cursors = x.Live()
	}
	return a
}

// ask is what a method must return.
func (x *plain) ask(c call) answer {
	switch c.name {
	case "Write":
		m, e := afterAll(x.head, c.l)
		if e == api.OK {
			x.head = m
		}
		return answer{e: e}
	case "Map":
		m, e := x.version(c.h)
		return answer{m: m, e: e}
	case "Pin":
		l, h, e := give(x.pins, x.head)
		x.pins = l
		return answer{h: h, e: e}
	case "Unpin":
		return answer{e: letGo(x.pins, c.h)}
	case "Open":
		return x.open(c.h, c.r)
	case "Next":
		return moved(x.cursors, c.h, 1)
	case "Prev":
		return moved(x.cursors, c.h, -1)
	case "Shut":
		return answer{e: letGo(x.cursors, c.h)}
	}
	return answer{pins: held(x.pins), cursors: held(x.cursors)}
}

// version is the map of a version.
func (x *plain) version(h api.Handle) ([]api.Pair, api.Errno) {
	if h == handle(0, 0) {
		return x.head, api.OK
	}
	g, e := look(x.pins, h)
	if e != api.OK {
		return nil, e
	}
	return g.m, api.OK
}

// open is what Open must return.
func (x *plain) open(h api.Handle, r api.KeRange) answer {
	m, e := x.version(h)
	if e := firstErr(e, rangeErr(r)); e != api.OK {
		return answer{e: e}
	}
	part, _ := partOf(m, r)
	l, c, e := give(x.cursors, part)
	x.cursors = l
	return answer{h: c, e: e}
}

// moved is what Next, 1, and Prev, -1, must return.
func moved(l []given, h api.Handle, by int) answer {
	g, e := look(l, h)
	if e != api.OK {
		return answer{e: e}
	}
	passed := g.at
	if by < 0 {
		passed--
	}
	if passed < 0 || passed == len(g.m) {
		return answer{e: api.ErrEnd}
	}
	g.at += by
	return answer{p: g.m[passed]}
}

// letGo is what Unpin and Shut must return.
func letGo(l []given, h api.Handle) api.Errno {
	g, e := look(l, h)
	if e == api.OK {
		g.held = false
	}
	return e
}

// held returns the handles that are held, by index.
func held(l []given) []api.Handle {
	var out []api.Handle
	for _, g := range l {
		if g.held {
			out = append(out, g.h)
		}
	}
	slices.SortFunc(out, func(a, b api.Handle) int { return a.Index - b.Index })
	return out
}

// checkCall checks a method.
func checkCall(t *testing.T, x *model.Model, p *plain, c call) answer {
	t.Helper()
	got, want := ask(x, c), p.ask(c)
	if !sameAnswer(got, want) {
		t.Fatalf("%s: %s, want %s", brief(c), brief(got), brief(want))
	}
	return got
}

// checkState checks the maps of all versions, and which handles are held.
func checkState(t *testing.T, x *model.Model, p *plain) {
	t.Helper()
	checkCall(t, x, p, call{name: "Map"})
	checkCall(t, x, p, call{name: "Live"})
	for _, h := range held(p.pins) {
		checkCall(t, x, p, call{name: "Map", h: h})
	}
}

// checkCursors goes through all cursors, there and back to their places.
func checkCursors(t *testing.T, x *model.Model, p *plain) {
	t.Helper()
	for _, h := range held(p.cursors) {
		for _, way := range []string{"Next", "Prev"} {
			back, steps := map[string]string{"Next": "Prev", "Prev": "Next"}[way], 0
			for checkCall(t, x, p, call{name: way, h: h}).e == api.OK {
				steps++
			}
			for range steps {
				checkCall(t, x, p, call{name: back, h: h})
			}
		}
	}
}

// handle returns a handle: of the head, one that was given, or one near those.
func (d *dice) handle(l []given) api.Handle {
	switch n := d.roll(8); {
	case n == 0:
		return handle(0, 0)
	case n == 1:
		return handle(d.roll(19)-1, d.roll(5)-1)
	case n < 4 && len(l) > 0:
		return l[d.roll(len(l))].h
	}
	if l := held(l); len(l) > 0 {
		return l[d.roll(len(l))]
	}
	return handle(1, 1)
}

// call returns a call of a method. Calls that give handles come the more often, the greater many is.
func (d *dice) call(p *plain, many int) call {
	c := call{name: names[d.roll(len(names))], r: d.span()}
	if (c.name == "Unpin" || c.name == "Shut") && d.roll(many) > 0 {
		c.name = map[string]string{"Unpin": "Pin", "Shut": "Open"}[c.name]
	}
	switch c.name {
	case "Write":
		c.l = d.writes()
		if d.roll(10) == 0 {
			l := wrongBatches()
			c.l = l[d.roll(len(l))]
		}
	case "Map", "Unpin", "Open":
		c.h = d.handle(p.pins)
	default:
		c.h = d.handle(p.cursors)
	}
	return c
}

// P5.4 to P5.7: many calls, one after the other, are what the definitions say.
func TestCalls(t *testing.T) {
	d := &dice{9}
	seen := map[string]int{}
	for round := range 30 {
		x, p := model.New(), &plain{}
		for i := range 600 {
			c := d.call(p, round%6+1)
			a := checkCall(t, x, p, c)
			seen[fmt.Sprint(c.name, " ", a.e)]++
			checkState(t, x, p)
			if i%20 == 0 {
				checkCursors(t, x, p)
			}
		}
	}
	for _, want := range []string{"Write 0", "Write 3", "Write 6", "Map 0", "Map 4", "Map 11", "Pin 0", "Pin 5", "Unpin 0", "Unpin 4", "Unpin 11", "Open 0", "Open 4", "Open 5", "Open 6", "Open 11", "Next 0", "Next 4", "Next 11", "Next 12", "Prev 0", "Prev 4", "Prev 11", "Prev 12", "Shut 0", "Shut 4", "Shut 11", "Live 0"} {
		if seen[want] == 0 {
			t.Errorf("%s was not seen", want)
		}
	}
}

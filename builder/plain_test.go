package builder_test

import (
	"slices"
	"testing"

	"bookend/api"
	"bookend/builder"
)

// A plain is what a builder must be. What a copy of one does changes nothing of the other.
type plain struct {
	most   int
	l      []api.Entry
	sealed bool
}

// A call is a method of a builder, and its argument.
type call struct {
	name string
	x    api.Entry
	id   int
}

// Calls that may change a builder, and those that only look at it.
func add(x api.Entry) call { return call{name: "Add", x: x} }
func seal(id int) call     { return call{name: "Seal", id: id} }
func looks() []call        { return []call{{name: "Len"}, {name: "Room"}, {name: "Last"}} }

// An answer is what a method returned; what it does not have is zero.
type answer struct {
	n int
	x api.Entry
	r api.Run
	e api.Errno
}

// sameAnswer reports whether two answers are equal.
func sameAnswer(a, b answer) bool { return a.n == b.n && a.x == b.x && sameRun(a.r, b.r) && a.e == b.e }

// ask calls a method of a builder.
func ask(b *builder.Builder, c call) (a answer) {
	switch c.name {
	case "Add":
		a.e = b.Add(c.x)
	case "Len":
		a.n = b.Len()
	case "Room":
		a.n = b.Room()
	case "Last":
		a.x, a.e = b.Last()
	case "Seal":
		a.r, a.e = b.Seal(c.id)
	}
	return a
}

// ask is what a method must return.
func (p *plain) ask(c call) answer {
	switch c.name {
	case "Add":
		e := p.addErr(c.x)
		if e == api.OK {
			p.l = append(slices.Clone(p.l), c.x)
		}
		return answer{e: e}
	case "Len":
		return answer{n: len(p.l)}
	case "Room":
		if p.sealed {
			return answer{}
		}
		return answer{n: p.most - len(p.l)}
	case "Last":
		if len(p.l) == 0 {
			return answer{e: api.ErrNone}
		}
		return answer{x: p.l[len(p.l)-1]}
	}
	if p.sealed {
		return answer{e: api.ErrDown}
	}
	r, e := runOf(c.id, p.l)
	p.sealed = e == api.OK
	return answer{r: r, e: e}
}

// addErr is the error of Add.
func (p *plain) addErr(x api.Entry) api.Errno {
	switch {
	case p.sealed:
		return api.ErrDown
	case entryErr(x) != api.OK:
		return entryErr(x)
	case len(p.l) > 0 && !after(x.Key, p.l[len(p.l)-1].Key):
		return api.ErrForm
	case len(p.l) == p.most:
		return api.ErrFull
	}
	return api.OK
}

// checkCall checks a method.
func checkCall(t *testing.T, b *builder.Builder, p *plain, c call) answer {
	t.Helper()
	old := *p
	got, want := ask(b, c), p.ask(c)
	if !sameAnswer(got, want) {
		t.Fatalf("%s of a builder that is %s: %s, want %s", brief(c), brief(old), brief(got), brief(want))
	}
	return got
}

// checkLooks checks all methods that change nothing.
func checkLooks(t *testing.T, b *builder.Builder, p plain) {
	t.Helper()
	for _, c := range looks() {
		checkCall(t, b, &p, c)
	}
}

// checkState checks all that can be seen of a builder, also its entries, which a fork shows that is sealed.
func checkState(t *testing.T, b *builder.Builder, p plain) {
	t.Helper()
	checkLooks(t, b, p)
	f, q := b.Fork(), p
	checkLooks(t, f, q)
	checkCall(t, f, &q, seal(1))
	checkLooks(t, b, p)
}

// fewCalls returns calls that may change a builder: with keys that rise, fall and come again, and with what is wrong.
func fewCalls() []call {
	return []call{
		add(put("", "", 1)), add(put("a", "1", 5)), add(del("a", 7)), add(del("a\x00", 7)), add(put("\x80", "2", 1e9)), add(put("\x7f", "", 2)),
		add(put("b", "", 0)), add(put(repeat("k", 33), "", 1)), add(api.Entry{Key: "c", Val: "v", Dead: true, Seq: 1}), add(api.Entry{}),
		seal(0), seal(1), seal(1000000), seal(1000001),
	}
}

// P6.2 to P6.6: all short rows of calls, made anew each time, and with forks of what was before: both are what the definitions say, and what a fork does changes nothing of its origin.
func TestShortRows(t *testing.T) {
	for most := 1; most <= 3; most++ {
		var grow func(row []call, origin *builder.Builder, p plain)
		grow = func(row []call, origin *builder.Builder, p plain) {
			anew, q := newBuilder(t, most), plain{most: most}
			for _, c := range row {
				checkCall(t, anew, &q, c)
			}
			checkState(t, anew, p)
			checkState(t, origin, p)
			for _, c := range fewCalls() {
				if len(row) < 4 {
					f, q := origin.Fork(), p
					checkCall(t, f, &q, c)
					grow(append(slices.Clip(row), c), f, q)
					checkLooks(t, origin, p)
				}
			}
		}
		grow(nil, newBuilder(t, most), plain{most: most})
	}
}

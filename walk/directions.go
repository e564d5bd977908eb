package walk

import (
	"iter"

	"bookend/api"
)

// The directions.
const (
	forward = iota
	backward
	directions
)

// A direction says, of a place between entries, what is ahead of it.
type direction struct {
	// left returns how many of all entries are ahead.
	left func(at, all int) int
	// pass returns the index of the nearest one of them, and the place behind it.
	pass func(at int) (entry, behind int)
}

// directionOf returns the direction: backward with back, otherwise forward.
func directionOf(back bool) direction {
	both := [directions]direction{
		forward: {
			left: func(at, all int) int { return all - at },
			pass: func(at int) (entry, behind int) { return at, at + 1 },
		},
		backward: {
			left: func(at, _ int) int { return at },
			pass: func(at int) (entry, behind int) { return at - 1, at - 1 },
		},
	}
	if back {
		return both[backward]
	}
	return both[forward]
}

// ahead yields the entries that are ahead of the cursor in a direction, the nearest first, each with the cursor behind it.
func ahead(l []api.Entry, w api.WaCursor, back bool) iter.Seq2[api.Entry, api.WaCursor] {
	d := directionOf(back)
	return func(yield func(api.Entry, api.WaCursor) bool) {
		at := w.At
		for range d.left(at, len(l)) {
			entry, behind := d.pass(at)
			if !yield(l[entry], api.WaCursor{At: behind}) {
				return
			}
			at = behind
		}
	}
}

package ops

import (
	"iter"
	"strings"

	"bookend/api"
)

// A place is a pointer to a part of an operation or of an answer, and the letter of this part.
type place struct {
	letter rune
	at     any
}

// placesOfCall returns the places of the parts of an operation, other than its kind and its grant.
func placesOfCall(c *api.OpCall) []place {
	return []place{{'k', &c.Key}, {'v', &c.Val}, {'h', &c.Handle}, {'o', &c.Other}, {'r', &c.Range}, {'w', &c.Writes}}
}

// placesOfAnswer returns the places of the parts of an answer, other than its error.
func placesOfAnswer(a *api.OpAnswer) []place {
	return []place{{'k', &a.Key}, {'v', &a.Val}, {'n', &a.N}, {'h', &a.Handle}, {'i', &a.Items}, {'s', &a.Stats}}
}

// named returns the pointers of the places with these letters, in the order of the letters.
func named(l []place, letters string) []any {
	var found []any
	for _, letter := range letters {
		for _, p := range l {
			if p.letter == letter {
				found = append(found, p.at)
			}
		}
	}
	return found
}

// others returns the pointers of the places without these letters.
func others(l []place, letters string) []any {
	var found []any
	for _, p := range l {
		if !strings.ContainsRune(letters, p.letter) {
			found = append(found, p.at)
		}
	}
	return found
}

// numbersOf yields pointers to the numbers of statistics, in their order.
func numbersOf(s *api.StStats) iter.Seq[any] {
	return func(yield func(any) bool) {
		for _, p := range []*int{&s.Live, &s.Entries, &s.Dead, &s.Buffered, &s.Runs, &s.Height, &s.Jobs, &s.Debt, &s.Pins, &s.Cursors, &s.Held} {
			if !yield(p) {
				return
			}
		}
		for _, p := range []*int64{&s.Writes, &s.Busy, &s.Seals, &s.Installs, &s.Steps, &s.Lost} {
			if !yield(p) {
				return
			}
		}
	}
}

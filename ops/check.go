package ops

import (
	"slices"

	"bookend/api"
)

// Check returns OK if c is an operation, and otherwise what is wrong.
func Check(c api.OpCall) api.Errno {
	if !isKind(c.Kind) {
		return api.ErrArg
	}
	if c.Grant < 0 || c.Grant > api.MaxGrant {
		return api.ErrRange
	}
	if e := checkParts(placesOfCall(&c), kinds[c.Kind].call); e != api.OK {
		return e
	}
	switch {
	case c.Kind == api.OpBatch && len(c.Writes) == 0:
		return api.ErrNone
	case slices.ContainsFunc(c.Writes, hidesVal), !c.Range.Bound && c.Range.High != "":
		return api.ErrForm
	}
	return api.OK
}

// checkParts returns OK if the parts with these letters have no number and no length that is wrong, and all others are zero, or empty.
func checkParts(places []place, letters string) api.Errno {
	has := named(places, letters)
	switch {
	case !all(others(places, letters), isZero):
		return api.ErrForm
	case !all(has, isInRange):
		return api.ErrRange
	case !all(has, isShort):
		return api.ErrLong
	}
	return api.OK
}

// all reports whether what is at each of the pointers has a quality.
func all(l []any, quality func(at any) bool) bool {
	for _, at := range l {
		if !quality(at) {
			return false
		}
	}
	return true
}

// isZero reports whether the part is zero, or empty.
func isZero(at any) bool {
	switch p := at.(type) {
	case *int:
		return *p == 0
	case *string:
		return *p == ""
	case *api.Handle:
		return *p == api.Handle{}
	case *api.KeRange:
		return *p == api.KeRange{}
	case *[]api.OpWrite:
		return len(*p) == 0
	case *[]api.DfItem:
		return len(*p) == 0
	case *api.StStats:
		return *p == api.StStats{}
	}
	return false
}

// isInRange reports whether the numbers of the part, if it has any, are from 0 to 10^9.
func isInRange(at any) bool {
	switch p := at.(type) {
	case *int:
		return isNumber(int64(*p))
	case *int64:
		return isNumber(*p)
	case *api.Handle:
		return isInRange(&p.Index) && isInRange(&p.Gen)
	case *api.StStats:
		for n := range numbersOf(p) {
			if !isInRange(n) {
				return false
			}
		}
	}
	return true
}

// isShort reports whether neither the strings of the part nor, if it is one, its list are too long.
func isShort(at any) bool {
	switch p := at.(type) {
	case *string:
		return fits(*p)
	case *api.KeRange:
		return fits(p.Low) && fits(p.High)
	case *[]api.OpWrite:
		if len(*p) > api.MaxBatch {
			return false
		}
		for _, w := range *p {
			if !fits(w.Key) || !fits(w.Val) {
				return false
			}
		}
	case *[]api.DfItem:
		return len(*p) <= api.MaxItems
	}
	return true
}

// hidesVal reports whether a write has a value that its line would not show.
func hidesVal(w api.OpWrite) bool {
	return w.Dead && w.Val != ""
}

// isNumber reports whether n is a number as handles and answers have them.
func isNumber(n int64) bool {
	return n >= 0 && n <= api.MaxNumber
}

// fits reports whether a key or a value is not too long for operations.
func fits(s string) bool {
	return len(s) <= api.MaxOpKey
}

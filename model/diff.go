package model

import "bookend/api"

// Diff returns the differences of two maps.
func Diff(a, b []api.Pair) ([]api.DfItem, api.Errno) {
	if _, e := Check(a); e != api.OK {
		return nil, e
	}
	if _, e := Check(b); e != api.OK {
		return nil, e
	}
	first, second := walk{pairs: a}, walk{pairs: b}
	return differences(first.next, second.next), api.OK
}

// Turn returns the differences the other way.
func Turn(l []api.DfItem) []api.DfItem {
	var turned []api.DfItem
	for _, x := range l {
		switch x.Kind {
		case api.DfNew:
			x.Kind = api.DfGone
		case api.DfGone:
			x.Kind = api.DfNew
		}
		x.Old, x.New = x.New, x.Old
		turned = append(turned, x)
	}
	return turned
}

// differences goes through the pairs of two maps side by side, and returns how they differ.
func differences(first, second move) []api.DfItem {
	var l []api.DfItem
	a, some := first()
	b, more := second()
	for some || more {
		switch {
		case !more || some && order(a.Key, b.Key) < 0:
			l = append(l, api.DfItem{Kind: api.DfGone, Key: a.Key, Old: a.Val})
			a, some = first()
		case !some || order(a.Key, b.Key) > 0:
			l = append(l, api.DfItem{Kind: api.DfNew, Key: b.Key, New: b.Val})
			b, more = second()
		default:
			if a.Val != b.Val {
				l = append(l, api.DfItem{Kind: api.DfOther, Key: a.Key, Old: a.Val, New: b.Val})
			}
			a, some = first()
			b, more = second()
		}
	}
	return l
}

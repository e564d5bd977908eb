package ops_test

import (
	"fmt"
	"reflect"
	"strings"

	"bookend/api"
	"bookend/words"
)

// names are the words of the kinds, and partsOf says which fields operations of a kind have besides Kind and Grant, and answers besides E.
var (
	names         = strings.Fields("none put del batch get floor ceiling count pin unpin open next prev shut diff work compact stats")
	partsOfCall   = [18]string{1: "Key Val", 2: "Key", 3: "Writes", 4: "Handle Key", 5: "Handle Key", 6: "Handle Key", 7: "Handle Range", 9: "Handle", 10: "Handle Range", 11: "Handle", 12: "Handle", 13: "Handle", 14: "Handle Other"}
	partsOfAnswer = [18]string{4: "Val", 5: "Key Val", 6: "Key Val", 7: "N", 8: "Handle", 10: "Handle", 11: "Key Val", 12: "Key Val", 14: "Items", 17: "Stats"}
)

// repeat is strings.Repeat with a shorter name.
func repeat(s string, n int) string { return strings.Repeat(s, n) }

// brief returns what there is, or its beginning, for messages.
func brief(x any) string {
	s := fmt.Sprintf("%+q", fmt.Sprintf("%+v", x))
	if len(s) > 300 {
		return fmt.Sprintf("%s .. (%d)", s[:300], len(s))
	}
	return s
}

// same reports whether two operations, or two answers, are equal; nil and empty lists are.
func same[T api.OpCall | api.OpAnswer](a, b T) bool {
	x, y := reflect.ValueOf(a), reflect.ValueOf(b)
	for i := range x.NumField() {
		if x.Field(i).Kind() == reflect.Slice && x.Field(i).Len() == 0 && y.Field(i).Len() == 0 {
			continue
		}
		if !reflect.DeepEqual(x.Field(i).Interface(), y.Field(i).Interface()) {
			return false
		}
	}
	return true
}

// sameList reports whether two lists of operations are equal.
func sameList(a, b []api.OpCall) bool {
	for i := range min(len(a), len(b)) {
		if !same(a[i], b[i]) {
			return false
		}
	}
	return len(a) == len(b)
}

// onlyHas reports whether the fields of x that are not zero, nor empty, are among these.
func onlyHas(x any, fields string) bool {
	v := reflect.ValueOf(x)
	for i := range v.NumField() {
		empty := v.Field(i).IsZero() || v.Field(i).Kind() == reflect.Slice && v.Field(i).Len() == 0
		if !empty && !strings.Contains(" "+fields+" ", " "+v.Type().Field(i).Name+" ") {
			return false
		}
	}
	return true
}

// anyOver reports whether a number is not from 0 to 10^9.
func anyOver(l ...int64) bool {
	for _, n := range l {
		if n < 0 || n > 1000000000 {
			return true
		}
	}
	return false
}

// anyLong reports whether a string has more than 100 bytes.
func anyLong(l ...string) bool {
	for _, s := range l {
		if len(s) >= 101 {
			return true
		}
	}
	return false
}

// errOf is what Check must return.
func errOf(c api.OpCall) api.Errno {
	if c.Kind < 1 || c.Kind > 17 {
		return api.ErrArg
	}
	if c.Grant < 0 || c.Grant > 1000000 {
		return api.ErrRange
	}
	if !onlyHas(c, "Kind Grant "+partsOfCall[c.Kind]) {
		return api.ErrForm
	}
	if anyOver(int64(c.Handle.Index), int64(c.Handle.Gen), int64(c.Other.Index), int64(c.Other.Gen)) {
		return api.ErrRange
	}
	long, hidden := anyLong(c.Key, c.Val, c.Range.Low, c.Range.High) || len(c.Writes) > 8, !c.Range.Bound && c.Range.High != ""
	for _, w := range c.Writes {
		long = long || anyLong(w.Key, w.Val)
		hidden = hidden || w.Dead && w.Val != ""
	}
	switch {
	case long:
		return api.ErrLong
	case c.Kind == 3 && len(c.Writes) == 0:
		return api.ErrNone
	case hidden:
		return api.ErrForm
	}
	return api.OK
}

// lineOf is the line of an operation.
func lineOf(c api.OpCall) string {
	s := fmt.Sprintf("%s %d", names[c.Kind], c.Grant)
	if c.Kind != 8 && strings.Contains(partsOfCall[c.Kind], "Handle") {
		s += fmt.Sprintf(" %d %d", c.Handle.Index, c.Handle.Gen)
	}
	switch c.Kind {
	case 1:
		s += " " + words.Quote(c.Key) + " " + words.Quote(c.Val)
	case 2, 4, 5, 6:
		s += " " + words.Quote(c.Key)
	case 3:
		for _, w := range c.Writes {
			if w.Dead {
				s += " del " + words.Quote(w.Key)
			} else {
				s += " put " + words.Quote(w.Key) + " " + words.Quote(w.Val)
			}
		}
	case 7, 10:
		s += " " + words.Quote(c.Range.Low)
		if c.Range.Bound {
			s += " " + words.Quote(c.Range.High)
		}
	case 14:
		s += fmt.Sprintf(" %d %d", c.Other.Index, c.Other.Gen)
	}
	return s
}

// A dice yields numbers, the same ones each time.
type dice struct{ x uint32 }

// roll returns a number from 0 to n - 1.
func (d *dice) roll(n int) int {
	d.x = d.x*1664525 + 1013904223
	return int(d.x>>8) % n
}

// text returns a string of at most 100 bytes.
func (d *dice) text() string {
	switch d.roll(8) {
	case 0:
		return ""
	case 1:
		return repeat(string([]byte{byte(d.roll(256))}), 100)
	}
	b := make([]byte, d.roll(4))
	for i := range b {
		b[i] = byte(d.roll(256))
	}
	return string(b)
}

// number returns a number from 0 to 10^9.
func (d *dice) number() int {
	return [...]int{0, 1, 2, 9, 10, 99, 999999999, 1000000000, d.roll(1000)}[d.roll(9)]
}

// call returns an operation of a kind.
func (d *dice) call(kind int) api.OpCall {
	c := api.OpCall{Kind: kind, Grant: min(d.number(), 1000000)}
	has := partsOfCall[kind]
	if strings.Contains(has, "Key") {
		c.Key = d.text()
	}
	if strings.Contains(has, "Val") {
		c.Val = d.text()
	}
	if strings.Contains(has, "Handle") {
		c.Handle = api.Handle{Index: d.number(), Gen: d.number()}
	}
	if strings.Contains(has, "Other") {
		c.Other = api.Handle{Index: d.number(), Gen: d.number()}
	}
	if strings.Contains(has, "Range") {
		c.Range = api.KeRange{Low: d.text()}
		if d.roll(2) == 0 {
			c.Range.Bound, c.Range.High = true, d.text()
		}
	}
	if strings.Contains(has, "Writes") {
		for range d.roll(8) + 1 {
			if d.roll(2) == 0 {
				c.Writes = append(c.Writes, api.OpWrite{Key: d.text(), Dead: true})
			} else {
				c.Writes = append(c.Writes, api.OpWrite{Key: d.text(), Val: d.text()})
			}
		}
	}
	return c
}

// calls returns n operations of each kind.
func (d *dice) calls(n int) []api.OpCall {
	var l []api.OpCall
	for kind := 1; kind <= 17; kind++ {
		for range n {
			l = append(l, d.call(kind))
		}
	}
	return l
}

// item returns an item of an answer.
func (d *dice) item() api.DfItem {
	x := api.DfItem{Kind: d.roll(3) + 1, Key: d.text()}
	if x.Kind != 1 {
		x.Old = d.text()
	}
	if x.Kind != 2 {
		x.New = d.text()
	}
	return x
}

// answer returns an answer to an operation of a kind, often with OK.
func (d *dice) answer(kind int) api.OpAnswer {
	if d.roll(5) == 0 {
		return api.OpAnswer{E: api.Errno([...]int{1, 4, 10, 11, 12, 350, 999}[d.roll(7)])}
	}
	var a api.OpAnswer
	switch partsOfAnswer[kind] {
	case "Val":
		a.Val = d.text()
	case "Key Val":
		a.Key, a.Val = d.text(), d.text()
	case "N":
		a.N = d.number()
	case "Handle":
		a.Handle = api.Handle{Index: d.number(), Gen: d.number()}
	case "Items":
		for range d.roll(5) {
			a.Items = append(a.Items, d.item())
		}
	case "Stats":
		v := reflect.ValueOf(&a.Stats).Elem()
		for i := range v.NumField() {
			v.Field(i).SetInt(int64(d.number()))
		}
	}
	return a
}

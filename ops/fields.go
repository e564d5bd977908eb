package ops

import (
	"bookend/api"
	"bookend/words"
)

// lineOf returns the line of a word and of parts that were checked.
func lineOf(word string, places ...any) string {
	l := []api.Field{{S: word}}
	for _, at := range places {
		l = append(l, fieldsOf(at)...)
	}
	// Parts that were checked are bare where they must be, and short enough for a line, so there is no error.
	line, _ := words.Join(l)
	return line
}

// fieldsOf returns the fields of a part.
func fieldsOf(at any) []api.Field {
	switch p := at.(type) {
	case *int:
		return []api.Field{number(int64(*p))}
	case *int64:
		return []api.Field{number(*p)}
	case *api.Errno:
		return []api.Field{number(int64(*p))}
	case *string:
		return []api.Field{quoted(*p)}
	case *api.Handle:
		return []api.Field{number(int64(p.Index)), number(int64(p.Gen))}
	case *api.KeRange:
		return fieldsOfRange(*p)
	case *[]api.OpWrite:
		return fieldsOfWrites(*p)
	}
	return nil
}

// fieldsOfRange returns the fields of a range.
func fieldsOfRange(r api.KeRange) []api.Field {
	if r.Bound {
		return []api.Field{quoted(r.Low), quoted(r.High)}
	}
	return []api.Field{quoted(r.Low)}
}

// fieldsOfWrites returns the fields of the writes of a batch.
func fieldsOfWrites(writes []api.OpWrite) []api.Field {
	var l []api.Field
	for _, w := range writes {
		if w.Dead {
			l = append(l, api.Field{S: kinds[api.OpDel].word}, quoted(w.Key))
		} else {
			l = append(l, api.Field{S: kinds[api.OpPut].word}, quoted(w.Key), quoted(w.Val))
		}
	}
	return l
}

// number returns the field of a number.
func number(n int64) api.Field {
	return api.Field{S: words.Digits(n)}
}

// quoted returns the field of a string.
func quoted(s string) api.Field {
	return api.Field{S: s, Quoted: true}
}

// readLine reads a line of a word and of parts, and reports whether it has this form.
func readLine(line, word string, places ...any) bool {
	l, e := words.Split(line)
	if e != api.OK || len(l) == 0 || l[0] != (api.Field{S: word}) {
		return false
	}
	return readFields(l[1:], places...)
}

// readFields reads parts, and reports whether the fields have their form, and there are no others.
func readFields(l []api.Field, places ...any) bool {
	for _, at := range places {
		rest, ok := readPart(l, at)
		if !ok {
			return false
		}
		l = rest
	}
	return len(l) == 0
}

// readPart reads a part from the first fields, and returns the fields behind it, and whether they have its form.
func readPart(l []api.Field, at any) (rest []api.Field, ok bool) {
	switch p := at.(type) {
	case *api.Handle:
		return readBoth(l, &p.Index, &p.Gen)
	case *api.KeRange:
		return readRange(l, p)
	case *[]api.OpWrite:
		return readWrites(l, p)
	}
	if len(l) == 0 {
		return nil, false
	}
	return l[1:], readField(l[0], at)
}

// readField reads a part that has one field, and reports whether this has its form.
func readField(f api.Field, at any) bool {
	if p, ok := at.(*string); ok {
		*p = f.S
		return f.Quoted
	}
	n, e := words.Int(f.S, 0, api.MaxNumber)
	switch p := at.(type) {
	case *int:
		*p = int(n)
	case *int64:
		*p = n
	case *api.Errno:
		*p = api.Errno(n)
	}
	return !f.Quoted && e == api.OK
}

// readBoth reads two parts, one after the other.
func readBoth(l []api.Field, first, second any) (rest []api.Field, ok bool) {
	l, ok = readPart(l, first)
	if !ok {
		return nil, false
	}
	return readPart(l, second)
}

// readRange reads a range, which is the last part of its line: it has a bound if there is a second field.
func readRange(l []api.Field, r *api.KeRange) (rest []api.Field, ok bool) {
	r.Bound = len(l) > 1
	if r.Bound {
		return readBoth(l, &r.Low, &r.High)
	}
	return readPart(l, &r.Low)
}

// readWrites reads the writes of a batch, which are all fields that are left of its line.
func readWrites(l []api.Field, writes *[]api.OpWrite) (rest []api.Field, ok bool) {
	for len(l) > 0 {
		var w api.OpWrite
		switch l[0] {
		case api.Field{S: kinds[api.OpPut].word}:
			l, ok = readBoth(l[1:], &w.Key, &w.Val)
		case api.Field{S: kinds[api.OpDel].word}:
			w.Dead = true
			l, ok = readPart(l[1:], &w.Key)
		default:
			ok = false
		}
		if !ok {
			return nil, false
		}
		*writes = append(*writes, w)
	}
	return nil, true
}

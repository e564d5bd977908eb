package ops

import (
	"bookend/api"
	"bookend/words"
)

// Print returns the line of an operation.
func Print(c api.OpCall) (string, api.Errno) {
	if e := Check(c); e != api.OK {
		return "", e
	}
	return lineOf(kinds[c.Kind].word, placesInLine(&c)...), api.OK
}

// Parse returns the operation whose line this is.
func Parse(line string) (api.OpCall, api.Errno) {
	l, e := words.Split(line)
	if e != api.OK {
		return api.OpCall{}, e
	}
	c, ok := readCall(l)
	if !ok {
		return api.OpCall{}, api.ErrForm
	}
	if e := Check(c); e != api.OK {
		return api.OpCall{}, e
	}
	return c, api.OK
}

// Text returns the text of a script; with an error, the index of the first operation that is wrong, or -1 if the whole script is.
func Text(l []api.OpCall) (text string, call int, e api.Errno) {
	if len(l) > api.MaxOps {
		return "", -1, api.ErrLong
	}
	var lines []byte
	for i, c := range l {
		line, e := Print(c)
		if e != api.OK {
			return "", i, e
		}
		lines = append(lines, line...)
		lines = append(lines, '\n')
	}
	if len(lines) > api.MaxText {
		return "", -1, api.ErrLong
	}
	return string(lines), 0, api.OK
}

// Script returns the operations whose text this is; with an error, the number of the first line that is wrong, or 0 if the whole text is.
func Script(text string) (l []api.OpCall, line int, e api.Errno) {
	lines, e := words.Lines(text)
	if e != api.OK {
		return nil, 0, e
	}
	for i, s := range lines {
		if i == api.MaxOps {
			return nil, i + 1, api.ErrLong
		}
		c, e := Parse(s)
		if e != api.OK {
			return nil, i + 1, e
		}
		l = append(l, c)
	}
	return l, 0, api.OK
}

// placesInLine returns pointers to what the line of an operation has behind its word.
func placesInLine(c *api.OpCall) []any {
	return append([]any{&c.Grant}, named(placesOfCall(c), kinds[c.Kind].call)...)
}

// readCall returns what the fields of a line say, which need not be an operation, and whether they have the form of one.
func readCall(l []api.Field) (api.OpCall, bool) {
	if len(l) == 0 || l[0].Quoted {
		return api.OpCall{}, false
	}
	kind, e := Kind(l[0].S)
	if e != api.OK {
		return api.OpCall{}, false
	}
	c := api.OpCall{Kind: kind}
	ok := readFields(l[1:], placesInLine(&c)...)
	return c, ok
}

package words

import (
	"iter"

	"bookend/api"
)

// Split returns the fields of a line.
func Split(line string) ([]api.Field, api.Errno) {
	if len(line) > api.MaxLine {
		return nil, api.ErrLong
	}
	var l []api.Field
	for f, ok := range fieldsOf(line) {
		if !ok {
			return nil, api.ErrForm
		}
		l = append(l, f)
	}
	if tooLong(l) {
		return nil, api.ErrLong
	}
	return l, api.OK
}

// Join returns the line of the fields.
func Join(l []api.Field) (string, api.Errno) {
	if tooLong(l) {
		return "", api.ErrLong
	}
	var line []byte
	for i, f := range l {
		if !f.Quoted && !isBare(f.S) {
			return "", api.ErrForm
		}
		if i > 0 {
			line = append(line, ' ')
		}
		line = append(line, written(f)...)
	}
	if len(line) > api.MaxLine {
		return "", api.ErrLong
	}
	return string(line), api.OK
}

// fieldsOf yields the fields of a line, each with true; where the line has not the form of one, it yields false and ends.
func fieldsOf(line string) iter.Seq2[api.Field, bool] {
	return func(yield func(api.Field, bool) bool) {
		if line != "" {
			parse(line, yield)
		}
	}
}

// parse yields the fields of a line that is not empty. It jumps, because only the first byte of a field tells its kind, and both kinds end alike.
func parse(line string, yield func(api.Field, bool) bool) {
	var f api.Field
	var ok bool
	at := 0

start:
	if at < len(line) && line[at] == '"' {
		goto quoted
	}
	f.S, at, ok = readBare(line, at)
	f.Quoted = false
	goto end

quoted:
	f.S, at, ok = readQuoted(line, at)
	f.Quoted = true

end:
	if !ok {
		yield(api.Field{}, false)
		return
	}
	if !yield(f, true) || at == len(line) {
		return
	}
	if line[at] != ' ' {
		yield(api.Field{}, false)
		return
	}
	at++
	goto start
}

// readBare reads the bare field that begins at line[at], and returns its string and the place after it.
func readBare(line string, at int) (string, int, bool) {
	end := at
	for end < len(line) && isBareByte(line[end]) {
		end++
	}
	return line[at:end], end, end > at
}

// tooLong reports whether there are more fields than a line has, or one that is too long.
func tooLong(l []api.Field) bool {
	if len(l) > api.MaxFields {
		return true
	}
	for _, f := range l {
		if len(f.S) > api.MaxField {
			return true
		}
	}
	return false
}

// written returns the field as a line has it.
func written(f api.Field) string {
	if f.Quoted {
		return Quote(f.S)
	}
	return f.S
}

// isBare reports whether s can be written without quotes.
func isBare(s string) bool {
	for i := range len(s) {
		if !isBareByte(s[i]) {
			return false
		}
	}
	return s != ""
}

func isBareByte(c byte) bool {
	return isPlain(c) && c != ' '
}

package entries

import (
	"strings"

	"bookend/api"
	"bookend/words"
)

// What the lines of entries begin with.
const (
	putWord = "put"
	delWord = "del"
)

// A field is a part of a line: a bare one, or a quoted one.
type field interface {
	// written returns the field as the line has it.
	written() string
}

// A bare field is written as it is.
type bare string

// A quoted field is the string whose quoted form is written.
type quoted string

func (b bare) written() string   { return string(b) }
func (q quoted) written() string { return words.Quote(string(q)) }

// Print returns the text of the list.
func Print(l []api.Entry) (string, api.Errno) {
	if e := checkAll(l); e != api.OK {
		return "", e
	}
	var text []byte
	for _, x := range l {
		text = append(text, lineOf(x)...)
		text = append(text, '\n')
	}
	if len(text) > api.MaxText {
		return "", api.ErrLong
	}
	return string(text), api.OK
}

// Parse returns the list whose text this is; with an error, the number of the first line that is wrong, or 0 if the whole text is.
func Parse(text string) (l []api.Entry, line int, e api.Errno) {
	lines, e := linesOf(text)
	if e != api.OK {
		return nil, 0, e
	}
	for i, s := range lines {
		x, e := readEntry(s)
		if e != api.OK {
			return nil, i + 1, e
		}
		l = append(l, x)
	}
	return l, 0, api.OK
}

// lineOf returns the line of an entry.
func lineOf(x api.Entry) string {
	var parts []string
	for _, f := range fieldsOf(x) {
		parts = append(parts, f.written())
	}
	return strings.Join(parts, " ")
}

// fieldsOf returns the fields of the line of an entry.
func fieldsOf(x api.Entry) []field {
	seq := bare(words.Digits(x.Seq))
	if x.Dead {
		return []field{bare(delWord), quoted(x.Key), seq}
	}
	return []field{bare(putWord), quoted(x.Key), quoted(x.Val), seq}
}

// linesOf returns the lines of a text.
func linesOf(text string) ([]string, api.Errno) {
	// Too many lines come before a last one that has no end; words.Lines looks at this one first.
	if strings.Count(text, "\n") > api.MaxLines {
		return nil, api.ErrLong
	}
	return words.Lines(text)
}

// readEntry returns the entry of a line.
func readEntry(line string) (api.Entry, api.Errno) {
	l, ok := readFields(line)
	if !ok {
		return api.Entry{}, api.ErrForm
	}
	x, ok := entryOf(l)
	if !ok {
		return api.Entry{}, api.ErrForm
	}
	if e := Check(x); e != api.OK {
		return api.Entry{}, e
	}
	return x, api.OK
}

// entryOf returns what the fields say, which need not be an entry, and whether they are those of a line of one.
func entryOf(l []field) (api.Entry, bool) {
	if len(l) < 3 {
		return api.Entry{}, false
	}
	word, _ := l[0].(bare)
	key, hasKey := l[1].(quoted)
	seq, hasSeq := readSeq(l[len(l)-1])
	if !hasKey || !hasSeq {
		return api.Entry{}, false
	}
	switch {
	case word == delWord && len(l) == 3:
		return api.Entry{Key: string(key), Dead: true, Seq: seq}, true
	case word == putWord && len(l) == 4:
		val, ok := l[2].(quoted)
		return api.Entry{Key: string(key), Val: string(val), Seq: seq}, ok
	}
	return api.Entry{}, false
}

// readSeq returns the integer that a field is, or 0 if it is no sequence number, and whether it is the decimal form of an integer of any size.
func readSeq(f field) (int64, bool) {
	s, ok := f.(bare)
	if !ok {
		return 0, false
	}
	n, e := words.Int(string(s), 1, api.MaxSeq)
	return n, e != api.ErrForm
}

// readFields returns the fields of a line, and whether it has the form of one. It has no limits, unlike words.Split: a line is that of an entry also if its strings are too long, or its integer.
func readFields(line string) ([]field, bool) {
	var l []field
	for {
		f, rest, ok := readField(line)
		if !ok {
			return nil, false
		}
		l = append(l, f)
		if rest == "" {
			return l, true
		}
		line, ok = strings.CutPrefix(rest, " ")
		if !ok {
			return nil, false
		}
	}
}

// readField returns the field that s begins with, and what follows it.
func readField(s string) (f field, rest string, ok bool) {
	if strings.HasPrefix(s, `"`) {
		end := quotedEnd(s)
		text, e := words.Unquote(s[:end])
		return quoted(text), s[end:], e == api.OK
	}
	end := strings.IndexByte(s, ' ')
	if end < 0 {
		end = len(s)
	}
	return bare(s[:end]), s[end:], true
}

// quotedEnd returns the place after the quotes that s begins with, or 0 if they are not closed.
func quotedEnd(s string) int {
	for i := 1; i < len(s); i++ {
		switch s[i] {
		case '\\':
			// The byte behind a backslash closes nothing.
			i++
		case '"':
			return i + 1
		}
	}
	return 0
}

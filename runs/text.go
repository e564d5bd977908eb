package runs

import (
	"strings"

	"bookend/api"
	"bookend/entries"
	"bookend/words"
)

// What the first line of a text has before the id.
const head = "run "

// Print returns the text of the run.
func Print(r api.Run) (string, api.Errno) {
	if _, e := Check(r); e != api.OK {
		return "", e
	}
	rest, e := entries.Print(r.Entries)
	if e != api.OK {
		return "", e
	}
	text := head + words.Digits(int64(r.Id)) + "\n" + rest
	if len(text) > api.MaxText {
		return "", api.ErrLong
	}
	return text, api.OK
}

// Parse returns the run whose text this is; with an error, the number of the first line that is wrong, or 0 if the whole text is.
func Parse(text string) (r api.Run, line int, e api.Errno) {
	if len(text) > api.MaxText {
		return api.Run{}, 0, api.ErrLong
	}
	id, rest, e := readHead(text)
	if e != api.OK {
		return api.Run{}, 1, e
	}
	l, line, e := entries.Parse(rest)
	if e != api.OK {
		return api.Run{}, afterHead(line), e
	}
	r = api.Run{Id: id, Entries: l}
	if entry, e := Check(r); e != api.OK {
		return api.Run{}, afterHead(entry + 1), e
	}
	return r, 0, api.OK
}

// readHead returns the id that the first line of a text has, and what follows this line.
func readHead(text string) (id int, rest string, e api.Errno) {
	first, rest, ended := strings.Cut(text, "\n")
	digits, ok := strings.CutPrefix(first, head)
	if !ended || !ok {
		return 0, "", api.ErrForm
	}
	n, e := words.Int(digits, 1, api.MaxRunId)
	if e != api.OK {
		return 0, "", e
	}
	return int(n), rest, api.OK
}

// afterHead returns the number in the whole text of a line of the text of the entries; 0, which is no line, stays as it is.
func afterHead(line int) int {
	if line > 0 {
		return line + 1
	}
	return 0
}

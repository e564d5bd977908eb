package ops

import (
	"slices"
	"strings"

	"bookend/api"
	"bookend/words"
)

// What the lines of answers begin with.
const (
	answerWord = "answer"
	itemWord   = "item"
	statsWord  = "stats"
)

// maxErrno is the greatest error of an answer.
const maxErrno = 999

// CheckAnswer returns 0 and OK if a is an answer to an operation of this kind; otherwise the index of the first item that is wrong, or -1 if anything else is, and what is wrong.
func CheckAnswer(kind int, a api.OpAnswer) (item int, e api.Errno) {
	if !isKind(kind) {
		return -1, api.ErrArg
	}
	if a.E < api.OK || a.E > maxErrno {
		return -1, api.ErrRange
	}
	if e := checkParts(placesOfAnswer(&a), lettersOf(kind, a.E)); e != api.OK {
		return -1, e
	}
	for i, x := range a.Items {
		if e := checkItem(x); e != api.OK {
			return i, e
		}
	}
	return 0, api.OK
}

// PrintAnswer returns the text of an answer to an operation of this kind.
func PrintAnswer(kind int, a api.OpAnswer) (string, api.Errno) {
	if _, e := CheckAnswer(kind, a); e != api.OK {
		return "", e
	}
	lines := []string{lineOf(answerWord, placesInHead(&a)...)}
	for _, x := range a.Items {
		lines = append(lines, lineOf(itemWord, placesInItem(&x)...))
	}
	if hasStats(kind, a.E) {
		lines = append(lines, lineOf(statsWord, placesInStats(&a.Stats)...))
	}
	text := strings.Join(lines, "\n") + "\n"
	if len(text) > api.MaxText {
		return "", api.ErrLong
	}
	return text, api.OK
}

// ParseAnswer returns the answer to an operation of this kind whose text this is; with an error, the number of the first line that is wrong or missing, or 0 if the whole text is wrong, or what it says.
func ParseAnswer(kind int, text string) (a api.OpAnswer, line int, e api.Errno) {
	if !isKind(kind) {
		return api.OpAnswer{}, 0, api.ErrArg
	}
	lines, e := words.Lines(text)
	if e != api.OK {
		return api.OpAnswer{}, 0, e
	}
	a, line = readAnswer(kind, lines)
	if line > 0 {
		return api.OpAnswer{}, line, api.ErrForm
	}
	if _, e := CheckAnswer(kind, a); e != api.OK {
		return api.OpAnswer{}, 0, e
	}
	return a, 0, api.OK
}

// checkItem returns OK if x is an item of an answer.
func checkItem(x api.DfItem) api.Errno {
	switch {
	case x.Kind != api.DfNew && x.Kind != api.DfGone && x.Kind != api.DfOther:
		return api.ErrArg
	case x.Kind == api.DfNew && x.Old != "" || x.Kind == api.DfGone && x.New != "":
		return api.ErrForm
	case !fits(x.Key) || !fits(x.Old) || !fits(x.New):
		return api.ErrLong
	}
	return api.OK
}

// lettersOf returns the letters of the parts of an answer with this error to an operation of this kind.
func lettersOf(kind int, e api.Errno) string {
	if e != api.OK {
		return ""
	}
	return kinds[kind].answer
}

// hasStats reports whether an answer with this error to an operation of this kind has statistics.
func hasStats(kind int, e api.Errno) bool {
	return kind == api.OpStats && e == api.OK
}

// placesInHead returns pointers to what the first line of an answer has behind its word.
func placesInHead(a *api.OpAnswer) []any {
	return []any{&a.E, &a.N, &a.Handle, &a.Key, &a.Val}
}

// placesInItem returns pointers to what the line of an item has behind its word.
func placesInItem(x *api.DfItem) []any {
	return []any{&x.Kind, &x.Key, &x.Old, &x.New}
}

// placesInStats returns pointers to what the line of statistics has behind its word.
func placesInStats(s *api.StStats) []any {
	return slices.Collect(numbersOf(s))
}

// readAnswer returns what the lines say, which need not be an answer, and the number of the first line that is wrong or missing, or 0.
func readAnswer(kind int, lines []string) (a api.OpAnswer, line int) {
	if len(lines) == 0 || !readLine(lines[0], answerWord, placesInHead(&a)...) {
		return api.OpAnswer{}, 1
	}
	end := len(lines)
	if hasStats(kind, a.E) {
		end--
	}
	if end == 0 {
		return api.OpAnswer{}, 2
	}
	for i, s := range lines[1:end] {
		var x api.DfItem
		if !readLine(s, itemWord, placesInItem(&x)...) {
			return api.OpAnswer{}, i + 2
		}
		a.Items = append(a.Items, x)
	}
	if end < len(lines) && !readLine(lines[end], statsWord, placesInStats(&a.Stats)...) {
		return api.OpAnswer{}, len(lines)
	}
	return a, 0
}

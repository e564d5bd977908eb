package words

import (
	"strings"

	"bookend/api"
)

// Lines returns the lines of a text, without their line feeds.
func Lines(text string) ([]string, api.Errno) {
	if len(text) > api.MaxText {
		return nil, api.ErrLong
	}
	if text == "" {
		return nil, api.OK
	}
	body, ok := strings.CutSuffix(text, "\n")
	if !ok {
		return nil, api.ErrForm
	}
	l := strings.Split(body, "\n")
	if len(l) > api.MaxLines {
		return nil, api.ErrLong
	}
	return l, api.OK
}

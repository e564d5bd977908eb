package words

import (
	"strings"

	"bookend/api"
)

// noNumbers is the expression of the empty list.
const noNumbers = "-"

// A span is consecutive integers: the decimal forms of the first one and of the last one, which may be of any size.
type span struct{ first, last string }

// List returns the list expression of l.
func List(l []int) (string, api.Errno) {
	if e := checkList(l); e != api.OK {
		return "", e
	}
	if len(l) == 0 {
		return noNumbers, api.OK
	}
	var parts []string
	for at := 0; at < len(l); {
		end := spanEnd(l, at)
		parts = append(parts, writtenSpan(l[at], l[end-1]))
		at = end
	}
	return strings.Join(parts, ","), api.OK
}

// ParseList returns the list whose expression is s.
func ParseList(s string) ([]int, api.Errno) {
	if s == noNumbers {
		return nil, api.OK
	}
	spans, ok := readSpans(s)
	if !ok {
		return nil, api.ErrForm
	}
	// They ascend: if the last integer is in range, all are.
	if _, e := Int(spans[len(spans)-1].last, 0, api.MaxNumber); e != api.OK {
		return nil, e
	}
	return numbersOf(spans)
}

// checkList returns OK if l has an expression.
func checkList(l []int) api.Errno {
	if len(l) > api.MaxListed {
		return api.ErrLong
	}
	for _, n := range l {
		if n < 0 || n > api.MaxNumber {
			return api.ErrRange
		}
	}
	for i := 1; i < len(l); i++ {
		if l[i-1] >= l[i] {
			return api.ErrForm
		}
	}
	return api.OK
}

// spanEnd returns the index after the consecutive integers that begin at l[at].
func spanEnd(l []int, at int) int {
	end := at + 1
	for end < len(l) && l[end] == l[end-1]+1 {
		end++
	}
	return end
}

// writtenSpan returns consecutive integers as an expression has them.
func writtenSpan(first, last int) string {
	if first == last {
		return Digits(int64(first))
	}
	return Digits(int64(first)) + "-" + Digits(int64(last))
}

// readSpans returns the spans of an expression of at least one integer.
func readSpans(s string) ([]span, bool) {
	var spans []span
	for _, part := range strings.Split(s, ",") {
		p, ok := readSpan(part)
		if !ok {
			return nil, false
		}
		// Spans that touch would be one longer span.
		if len(spans) > 0 && !less(successor(spans[len(spans)-1].last), p.first) {
			return nil, false
		}
		spans = append(spans, p)
	}
	return spans, true
}

// readSpan returns the span that is written as s.
func readSpan(s string) (span, bool) {
	first, last, long := strings.Cut(s, "-")
	if !isNatural(first) {
		return span{}, false
	}
	if !long {
		return span{first, first}, true
	}
	if !isNatural(last) || !less(first, last) {
		return span{}, false
	}
	return span{first, last}, true
}

// less reports whether the integer a is less than b; both are decimal forms that are not negative.
func less(a, b string) bool {
	if len(a) != len(b) {
		return len(a) < len(b)
	}
	return a < b
}

// successor returns the decimal form of the integer after n, which is not negative.
func successor(n string) string {
	digits := []byte(n)
	for i := len(digits) - 1; i >= 0; i-- {
		if digits[i] != '9' {
			digits[i]++
			return string(digits)
		}
		digits[i] = '0'
	}
	return "1" + string(digits)
}

// numbersOf returns the integers of spans, none of them above MaxNumber.
func numbersOf(spans []span) ([]int, api.Errno) {
	var l []int
	for _, p := range spans {
		first, _ := Int(p.first, 0, api.MaxNumber)
		last, _ := Int(p.last, 0, api.MaxNumber)
		if last-first >= int64(api.MaxListed-len(l)) {
			return nil, api.ErrLong
		}
		for n := first; n <= last; n++ {
			l = append(l, int(n))
		}
	}
	return l, api.OK
}

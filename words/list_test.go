package words_test

import (
	"fmt"
	"math"
	"regexp"
	"slices"
	"strconv"
	"strings"
	"testing"

	"bookend/api"
	"bookend/words"
)

// expression is the list expression of a strictly ascending list.
func expression(l []int) string {
	s := ""
	for i, n := range l {
		joined := i > 0 && l[i-1] == n-1
		goesOn := i+1 < len(l) && l[i+1] == n+1
		switch {
		case joined && goesOn:
		case joined:
			s += "-" + fmt.Sprint(n)
		default:
			s += "," + fmt.Sprint(n)
		}
	}
	if s == "" {
		return "-"
	}
	return s[1:]
}

// checkBoth checks P1.6 of a list that has an expression, and, of P1.7, both ways.
func checkBoth(t *testing.T, l []int) {
	t.Helper()
	want := expression(l)
	if s, e := words.List(l); s != want || e != api.OK {
		t.Errorf("List(%.40v): %s, %d, want %s", l, short(s), e, short(want))
	}
	if got, e := words.ParseList(want); !slices.Equal(got, l) || e != api.OK {
		t.Errorf("ParseList(%s): %.40v, %d, want %.40v", short(want), got, e, l)
	}
}

// from returns n integers, from first on, each by step above the one before it.
func from(first, n, step int) []int {
	l := make([]int, n)
	for i := range l {
		l[i] = first + i*step
	}
	return l
}

// P1.6: the examples, every set of small integers at several places, and the limits of 500 and 10^9, just kept.
func TestListBoth(t *testing.T) {
	for want, l := range map[string][]int{"1-3,5,8-9": {1, 2, 3, 5, 8, 9}, "-": nil, "0": {0}, "0-1": {0, 1}, "0,2": {0, 2}, "9-10": {9, 10}, "999999999-1000000000": {999999999, 1000000000}, "0,1000000000": {0, 1000000000}} {
		if got := expression(l); got != want {
			t.Fatalf("expression(%v): %s", l, got)
		}
		checkBoth(t, l)
	}
	for set := range 1 << 9 {
		for _, first := range []int{0, 5, 95, 996, 999999992} {
			var l []int
			for i := range 9 {
				if set>>i&1 > 0 {
					l = append(l, first+i)
				}
			}
			checkBoth(t, l)
		}
	}
	for _, l := range [][]int{from(0, 500, 1), from(0, 500, 2), from(0, 500, 2000000), from(1000000000-499, 500, 1), from(1, 499, 1), append(from(0, 499, 1), 1000000000)} {
		checkBoth(t, l)
	}
}

// P1.6, List: the limits just broken, and which error counts first.
func TestListErrors(t *testing.T) {
	for i, x := range []struct {
		l []int
		e api.Errno
	}{
		{from(0, 501, 1), api.ErrLong}, {from(0, 501, 2), api.ErrLong}, {from(-1, 501, 1), api.ErrLong}, {make([]int, 501), api.ErrLong}, {from(500, 501, -1), api.ErrLong}, {from(1000000000, 501, 1), api.ErrLong}, {make([]int, 10000), api.ErrLong},
		{[]int{-1}, api.ErrRange}, {[]int{1000000001}, api.ErrRange}, {[]int{math.MinInt}, api.ErrRange}, {[]int{math.MaxInt}, api.ErrRange}, {[]int{0, 1, 1000000001}, api.ErrRange}, {[]int{-1, 0, 1}, api.ErrRange}, {[]int{1, 2, -3}, api.ErrRange},
		{[]int{2, 1, -1}, api.ErrRange}, {[]int{1, 1, 1000000001}, api.ErrRange}, {[]int{1000000001, 1000000001}, api.ErrRange}, {[]int{5, 4, 1000000001, 3}, api.ErrRange},
		{[]int{2, 1}, api.ErrForm}, {[]int{1, 1}, api.ErrForm}, {[]int{0, 0}, api.ErrForm}, {[]int{1, 2, 2}, api.ErrForm}, {[]int{1, 2, 3, 0}, api.ErrForm}, {[]int{1000000000, 0}, api.ErrForm}, {make([]int, 500), api.ErrForm}, {from(499, 500, -1), api.ErrForm},
	} {
		s, e := words.List(x.l)
		wantErr(t, "List "+strconv.Itoa(i), e, x.e, s == "")
	}
}

// P1.6, ParseList: the limits just broken, integers of any size, and which error counts first.
func TestParseListErrors(t *testing.T) {
	big := repeat("9", 400)
	for s, want := range map[string]api.Errno{
		"1-3,4": api.ErrForm, "3-3": api.ErrForm, "2,1": api.ErrForm, "0-600": api.ErrLong,
		"": api.ErrForm, "--": api.ErrForm, "-,1": api.ErrForm, "1,-": api.ErrForm, "-1": api.ErrForm, "1-": api.ErrForm, ",": api.ErrForm, "1,": api.ErrForm, ",1": api.ErrForm, "1,,3": api.ErrForm, "1-2-3": api.ErrForm, "1--3": api.ErrForm, "1,-3": api.ErrForm, "-1-3": api.ErrForm,
		" ": api.ErrForm, " 1": api.ErrForm, "1 ": api.ErrForm, "1, 3": api.ErrForm, "1;3": api.ErrForm, "+1": api.ErrForm, "01": api.ErrForm, "00": api.ErrForm, "1-03": api.ErrForm, "-0": api.ErrForm, "1-3\n": api.ErrForm, "a": api.ErrForm, "1_0": api.ErrForm, "[1]": api.ErrForm, "1..3": api.ErrForm,
		"1,2": api.ErrForm, "1,1": api.ErrForm, "1,2-3": api.ErrForm, "1-2,3-4": api.ErrForm, "1-3,2": api.ErrForm, "1-3,3": api.ErrForm, "1-5,2-3": api.ErrForm, "3-2": api.ErrForm, "5,1-2": api.ErrForm, "10-9": api.ErrForm, "9,10": api.ErrForm, "99,100": api.ErrForm, "0-9,10": api.ErrForm, "10,9": api.ErrForm, "19,20": api.ErrForm,
		"0-499": api.OK, "0-500": api.ErrLong, "0-498,500": api.OK, "0-498,500-501": api.ErrLong, "0-499,501": api.ErrLong, "5,7-505": api.OK, "5,7-506": api.ErrLong, "0-1000000000": api.ErrLong, "500000000-500000499": api.OK, "500000000-500000500": api.ErrLong,
		"1000000000": api.OK, "1000000001": api.ErrRange, "999999999-1000000000": api.OK, "999999999-1000000001": api.ErrRange, "1000000000-1000000001": api.ErrRange, "0,1000000001": api.ErrRange, "0-1000000001": api.ErrRange, "0-600,1000000001": api.ErrRange, "10000000000": api.ErrRange,
		"4294967297": api.ErrRange, "18446744073709551617": api.ErrRange, "1,18446744073709551619": api.ErrRange, "9223372036854775808-9223372036854775809": api.ErrRange, big: api.ErrRange, "5-" + big: api.ErrRange, "0-600,602-" + big: api.ErrRange,
		"1000000001,5": api.ErrForm, "1000000001,1000000002": api.ErrForm, "0-600,5": api.ErrForm, "0-1000000001,x": api.ErrForm, big + "," + big: api.ErrForm, big + "-" + big: api.ErrForm, big + ",1" + repeat("0", 400): api.ErrForm, big + ",1" + repeat("0", 399) + "1": api.ErrRange, big + "-1" + repeat("0", 400): api.ErrRange, "0" + big: api.ErrForm, big + "-5": api.ErrForm,
		"18446744073709551615,18446744073709551616": api.ErrForm, "18446744073709551615,18446744073709551617": api.ErrRange, "18446744073709551616-18446744073709551617": api.ErrRange, "9223372036854775807,9223372036854775808": api.ErrForm, "9223372036854775807,9223372036854775809": api.ErrRange,
	} {
		l, e := words.ParseList(s)
		wantErr(t, "ParseList "+s, e, want, len(l) == 0)
	}
}

// P1.6, ParseList: more than 500 integers without spans, and very long expressions.
func TestParseListLong(t *testing.T) {
	for n, want := range map[int]api.Errno{499: api.OK, 500: api.OK, 501: api.ErrLong, 20000: api.ErrLong} {
		for _, step := range []int{1, 2, 3} {
			s := expression(from(7, n, step))
			l, e := words.ParseList(s)
			wantErr(t, s, e, want, len(l) == 0)
			l, e = words.ParseList(s + ",1000000001")
			wantErr(t, s+",1000000001", e, api.ErrRange, len(l) == 0)
			l, e = words.ParseList(s + ",7")
			wantErr(t, s+",7", e, api.ErrForm, len(l) == 0)
		}
	}
}

var listForm = regexp.MustCompile(`\A(0|[1-9][0-9]*)(-(0|[1-9][0-9]*))?(,(0|[1-9][0-9]*)(-(0|[1-9][0-9]*))?)*\z`)

// isExpression reports whether s, of at most 9 digits, is a list expression, and how many integers it has.
func isExpression(s string) (bool, int) {
	if s == "-" {
		return true, 0
	}
	if !listForm.MatchString(s) {
		return false, 0
	}
	n, before := 0, -2
	for _, part := range strings.Split(s, ",") {
		ends := strings.Split(part, "-")
		first, _ := strconv.Atoi(ends[0])
		last, _ := strconv.Atoi(ends[len(ends)-1])
		if first <= before+1 || len(ends) == 2 && first >= last {
			return false, 0
		}
		n, before = n+last-first+1, last
	}
	return true, n
}

// P1.6 and P1.7: all short strings; an accepted one is the expression of what is returned.
func TestParseListAll(t *testing.T) {
	for s := range spelled(chars("0129,-"), 7) {
		want := api.OK
		ok, n := isExpression(s)
		if !ok {
			want = api.ErrForm
		} else if n > 500 {
			want = api.ErrLong
		}
		l, e := words.ParseList(s)
		wantErr(t, "ParseList "+s, e, want, len(l) == 0)
		if e != api.OK {
			continue
		}
		if back, e := words.List(l); back != s || len(l) != n || e != api.OK {
			t.Fatalf("List of ParseList(%s): %s, %d", s, back, e)
		}
	}
	for c := range 256 {
		b := string([]byte{byte(c)})
		for _, s := range []string{b, "1" + b, b + "1", "1" + b + "3", "1,3" + b + "5"} {
			ok, _ := isExpression(s)
			if _, e := words.ParseList(s); (e == api.OK) != ok {
				t.Errorf("ParseList(%q): %d", s, e)
			}
		}
	}
}

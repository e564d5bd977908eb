package ops_test

import (
	"slices"
	"strings"
	"testing"

	"bookend/api"
	"bookend/ops"
	"bookend/words"
)

// texted is what Text must return.
func texted(l []api.OpCall) (string, int, api.Errno) {
	if len(l) > 200 {
		return "", -1, api.ErrLong
	}
	text := ""
	for i, c := range l {
		if e := errOf(c); e != api.OK {
			return "", i, e
		}
		text += lineOf(c) + "\n"
	}
	if len(text) > 1<<20 {
		return "", -1, api.ErrLong
	}
	return text, 0, api.OK
}

// scripted is what Script must return.
func scripted(text string) ([]api.OpCall, int, api.Errno) {
	lines, e := words.Lines(text)
	if e != api.OK {
		return nil, 0, e
	}
	var l []api.OpCall
	for i, s := range lines {
		c, e := parsed(s)
		if i >= 200 {
			e = api.ErrLong
		}
		if e != api.OK {
			return nil, i + 1, e
		}
		l = append(l, c)
	}
	return l, 0, api.OK
}

// checkText checks Text, and, of P4.5, that Script of the text is the script.
func checkText(t *testing.T, l []api.OpCall) {
	t.Helper()
	want, at, we := texted(l)
	s, n, e := ops.Text(l)
	if s != want || n != at || e != we {
		t.Errorf("Text of %s: %s, %d, %d, want %s, %d, %d", brief(l), brief(s), n, e, brief(want), at, we)
	}
	if e != api.OK {
		return
	}
	if back, n, e := ops.Script(s); !sameList(back, l) || n != 0 || e != api.OK {
		t.Errorf("Script of Text of %s: %s, %d, %d", brief(l), brief(back), n, e)
	}
}

// checkScript checks Script, and, of P4.5, that Text of what it returns is the text.
func checkScript(t *testing.T, text string) {
	t.Helper()
	want, line, we := scripted(text)
	l, n, e := ops.Script(text)
	if !sameList(l, want) || n != line || e != we {
		t.Errorf("Script of %s: %s, %d, %d, want %s, %d, %d", brief(text), brief(l), n, e, brief(want), line, we)
	}
	if e != api.OK {
		return
	}
	if s, n, e := ops.Text(l); s != text || n != 0 || e != api.OK {
		t.Errorf("Text of Script of %s: %s, %d, %d", brief(text), brief(s), n, e)
	}
}

// widest returns a batch with the longest line, of 6494 bytes with its byte 10.
func widest() api.OpCall {
	c := api.OpCall{Kind: 3, Grant: 1000000}
	for range 8 {
		c.Writes = append(c.Writes, api.OpWrite{Key: repeat("\x00", 100), Val: repeat("\xff", 100)})
	}
	return c
}

// filled returns a script whose text has n bytes, from 109 on.
func filled(n int) []api.OpCall {
	var l []api.OpCall
	for ; n >= 6494+109; n -= 6494 {
		l = append(l, widest())
	}
	for ; n >= 2*109; n -= 109 {
		l = append(l, api.OpCall{Kind: 2, Key: repeat("a", 100)})
	}
	half := n / 2
	return append(l, api.OpCall{Kind: 2, Key: repeat("a", half-9)}, api.OpCall{Kind: 2, Key: repeat("b", n-half-9)})
}

// P4.3 and P4.5: many scripts.
func TestScripts(t *testing.T) {
	d := &dice{11}
	some := append(d.calls(30), wrongCalls()...)
	checkText(t, nil)
	checkScript(t, "")
	for round := range 300 {
		var l []api.OpCall
		for range d.roll(12) {
			// Half of the scripts have no wrong operation.
			l = append(l, some[d.roll(len(some)-len(wrongCalls())*(round%2))])
		}
		checkText(t, l)
	}
	lines := []string{"pin 0", "put 0 \"a\" \"\"", "work 100", "batch 0 del \"\"", "count 0 0 0 \"\" \"\"", "batch 0", "pin 1000001", "pin", "", "x", repeat("a", 8193), repeat("x ", 64) + "x", "del 0 \"" + repeat("k", 101) + "\"", "del 0 \"" + repeat("k", 2001) + "\""}
	for round := range 500 {
		text := ""
		for range d.roll(12) {
			text += lines[d.roll(5+(len(lines)-5)*(round%2))] + "\n"
		}
		checkScript(t, text)
		checkScript(t, text+"pin 0")
		checkScript(t, "\n"+text)
	}
}

// P4.3, Text: 200 and 201 operations, the first one that is wrong, and a text of 2^20 bytes and of one more; too many operations come first, and a wrong one before a text that is too long.
func TestTextLimits(t *testing.T) {
	pins := slices.Repeat([]api.OpCall{{Kind: 8}}, 201)
	wrong := api.OpCall{Kind: 3}
	full, over := filled(1<<20), filled(1<<20+1)
	for i, x := range []struct {
		l    []api.OpCall
		size int
		call int
		e    api.Errno
	}{
		{nil, 0, 0, api.OK}, {pins[:200], 1200, 0, api.OK}, {pins, 0, -1, api.ErrLong}, {append(slices.Clone(pins[:199]), wrong), 0, 199, api.ErrNone}, {append(slices.Clone(pins[:200]), wrong), 0, -1, api.ErrLong}, {make([]api.OpCall, 200), 0, 0, api.ErrArg}, {make([]api.OpCall, 201), 0, -1, api.ErrLong}, {make([]api.OpCall, 1<<16), 0, -1, api.ErrLong},
		{[]api.OpCall{{Kind: 8}, {Kind: 1, Key: repeat("k", 101)}, wrong}, 0, 1, api.ErrLong}, {[]api.OpCall{wrong, {Kind: 8}}, 0, 0, api.ErrNone}, {[]api.OpCall{{Kind: 8}, {Kind: 8, Grant: -1}, {}}, 0, 1, api.ErrRange},
		{full, 1 << 20, 0, api.OK}, {over, 0, -1, api.ErrLong}, {append(slices.Clip(over), wrong), 0, len(over), api.ErrNone}, {append([]api.OpCall{{}}, over...), 0, 0, api.ErrArg}, {append(slices.Clip(over), pins[:200]...), 0, -1, api.ErrLong}, {slices.Repeat([]api.OpCall{widest()}, 200), 0, -1, api.ErrLong}, {slices.Repeat([]api.OpCall{widest()}, 161), 161 * 6494, 0, api.OK},
	} {
		s, n, e := ops.Text(x.l)
		if len(s) != x.size || n != x.call || e != x.e {
			t.Errorf("%d: Text: %d bytes, %d, %d, want %d, %d, %d", i, len(s), n, e, x.size, x.call, x.e)
		}
		checkText(t, x.l)
	}
}

// P4.3, Script: 200 and 201 lines, the first one that is wrong, and what words.Lines does not accept, which comes first.
func TestScriptLimits(t *testing.T) {
	const pin = "pin 0\n"
	full, _, _ := texted(filled(1 << 20))
	for i, x := range []struct {
		text string
		many int
		line int
		e    api.Errno
	}{
		{repeat(pin, 200), 200, 0, api.OK}, {repeat(pin, 201), 0, 201, api.ErrLong}, {repeat(pin, 200) + "x\n", 0, 201, api.ErrLong}, {repeat(pin, 200) + "\n", 0, 201, api.ErrLong}, {repeat(pin, 200) + pin + "x\n", 0, 201, api.ErrLong}, {repeat(pin, 199) + "x\n", 0, 200, api.ErrForm}, {repeat(pin, 199) + "batch 0\n" + pin, 0, 200, api.ErrNone}, {"x\n" + repeat(pin, 300), 0, 1, api.ErrForm},
		{repeat(pin, 200) + "pin 0", 0, 0, api.ErrForm}, {repeat(pin, 200) + repeat("\n", 4800), 0, 201, api.ErrLong}, {repeat(pin, 200) + repeat("\n", 4801), 0, 0, api.ErrLong}, {"x\n" + repeat("\n", 4999), 0, 1, api.ErrForm}, {"x\n" + repeat("\n", 5000), 0, 0, api.ErrLong}, {"x\n" + repeat("\n", 5000) + "x", 0, 0, api.ErrForm}, {"x", 0, 0, api.ErrForm}, {"\n", 0, 1, api.ErrForm}, {"\n\n", 0, 1, api.ErrForm}, {pin + "\n", 0, 2, api.ErrForm}, {"pin 0\r\n", 0, 1, api.ErrForm}, {pin + "\x00", 0, 0, api.ErrForm},
		{repeat("x", 1<<20-1) + "\n", 0, 1, api.ErrLong}, {repeat("x", 1<<20), 0, 0, api.ErrForm}, {repeat("x", 1<<20) + "\n", 0, 0, api.ErrLong}, {repeat("x", 1<<20+1), 0, 0, api.ErrLong}, {full, 0, 0, api.OK}, {full + "\n", 0, 0, api.ErrLong}, {pin + repeat("a", 8192) + "\n", 0, 2, api.ErrLong}, {pin + repeat(" ", 8192) + "\n", 0, 2, api.ErrForm}, {pin + repeat(" ", 8193) + "\n", 0, 2, api.ErrLong}, {pin + "pin 1000001\nx\n", 0, 2, api.ErrRange},
	} {
		l, n, e := ops.Script(x.text)
		if x.text != full && len(l) != x.many || n != x.line || e != x.e {
			t.Errorf("%d: Script: %d operations, %d, %d, want %d, %d, %d", i, len(l), n, e, x.many, x.line, x.e)
		}
		checkScript(t, x.text)
	}
}

// P4.7: Text of operations, and of others, one after the other, is the text of all.
func TestTextTogether(t *testing.T) {
	d := &dice{13}
	all := d.calls(11)
	for n := range len(all) {
		l := all[:n]
		whole, _, e := ops.Text(l)
		if e != api.OK {
			t.Fatalf("Text: %d", e)
		}
		for _, cut := range []int{0, n / 3, n / 2, n} {
			a, _, ea := ops.Text(l[:cut])
			b, _, eb := ops.Text(l[cut:])
			if a+b != whole || ea != api.OK || eb != api.OK {
				t.Errorf("Text of %d and %d operations: %s, %d, and %s, %d", cut, n-cut, brief(a), ea, brief(b), eb)
			}
		}
		if strings.Count(whole, "\n") != n {
			t.Errorf("Text of %d operations: %s", n, brief(whole))
		}
	}
}

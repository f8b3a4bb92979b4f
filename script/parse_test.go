package script_test

import (
	"fmt"
	"slices"
	"strings"
	"testing"

	"aqueduct/api"
	"aqueduct/script"
)

// mustParse asks twice for a script's events.
func mustParse(t *testing.T, s string, want ...api.In) {
	t.Helper()
	for range 2 {
		if got, n, e := script.Parse(s); !slices.EqualFunc(got, want, same) || n != 0 || e != api.OK {
			t.Fatalf("Parse(%.60q) = %v, %d, %d, want %v", s, got, n, e, want)
		}
	}
}

// mustFail asks twice for a script's error; beside it there are no events, and nothing is played, whatever the configuration.
func mustFail(t *testing.T, s string, line int, want api.Errno) {
	t.Helper()
	for range 2 {
		if got, n, e := script.Parse(s); len(got) > 0 || n != line || e != want {
			t.Fatalf("Parse(%.60q) = %d events, %d, %d, want %d, %d", s, len(got), n, e, line, want)
		}
	}
	for _, c := range []api.Config{config(), {}} {
		if got, e := script.Play(c, s); got != "" || e != want {
			t.Fatalf("Play(%.60q) = %.60q, %d, want %d", s, got, e, want)
		}
	}
}

// P23.1: events, empty lines and remarks, with a byte 10 between.
func TestParse(t *testing.T) {
	tick, open := api.In{What: api.InTick}, api.In{What: api.InOpen, A: 1}
	for _, s := range []string{"", "\n", "\n\n\n", "#", "#\n", "# a remark", "#tick", "##\n#\n", "# \xff \x00 é\n", "#\r", "# tick\n#open 0\n\n#"} {
		mustParse(t, s)
	}
	for _, s := range []string{"tick", "tick\n", "\ntick", "\n\ntick\n\n", "#\ntick\n#", "# open 1\ntick\n# tick", "#tick\ntick"} {
		mustParse(t, s, tick)
	}
	mustParse(t, "tick\nopen 1\ntick", tick, open, tick)
	mustParse(t, "open 1\n\ntick\n#\nopen 1\n", open, tick, open)
	mustParse(t, "open 1\nopen 1", open, open)
	var all []api.In
	var text []string
	for what, name := range names {
		all = append(all, api.In{What: what, A: what, B: 7, Draw: numberMost, Bytes: []byte{byte(what), 0xfe}})
		text = append(text, fmt.Sprintf("%s %d 7 %d =%02xfe", name, what, numberMost, what))
	}
	mustParse(t, strings.Join(text, "\n"), all...)
	mustParse(t, strings.Join(text, "\n")+"\n", all...)
	mustParse(t, strings.Join(text, "\n\n#\n"), all...)
	mustParse(t, "bytes 1 =\n", api.In{What: api.InBytes, A: 1})
}

// P23.1: the first line with an error, counted from 1 on, with empty ones and remarks.
func TestParseFaults(t *testing.T) {
	for _, c := range []struct {
		s    string
		line int
	}{
		{"no", 1}, {"no\n", 1}, {"no\nno", 1}, {"tick\nno", 2}, {"tick\n\nno\n", 3}, {"\n\n\nno", 4}, {"#\n#\nno\ntick\n01", 3}, {"tick\ntick\nopen ", 3}, {"tick\ntick\nopen 01\nno", 3},
		{" ", 1}, {"tick\n ", 2}, {" #", 1}, {"tick\n # remark", 2}, {" tick", 1}, {"tick ", 1}, {"tick # remark", 1}, {"tick #", 1}, {"tick#", 1}, {"\ttick", 1}, {"tick\t", 1},
		{"tick\r\n", 1}, {"\r\n", 1}, {"tick\n\r", 2}, {"tick\x00", 1}, {"tick\vtick", 1}, {"tick;tick", 1}, {"tick\u2028tick", 1}, {"tick\u0085tick", 1}, {"\xff", 1}, {"tick\n\xff\n", 2},
		{"bytes =00\n11", 2}, {"bytes =00\n=11", 2}, {"bytes 1 =0\n0", 1}, {"open\n1", 2}, {"\\", 1}, {"//", 1}, {"=", 1}, {"0", 1},
	} {
		mustFail(t, c.s, c.line, api.ErrForm)
	}
	for line := 1; line < 200; line++ {
		mustFail(t, strings.Repeat("tick\n", line-1)+"tock\n"+strings.Repeat("tick\n", 7), line, api.ErrForm)
		mustFail(t, strings.Repeat("\n", line-1)+"tock\n"+strings.Repeat("tock\n", 7), line, api.ErrForm)
	}
}

// P23.1: MaxEvents events, and one more, whose line is told.
func TestManyEvents(t *testing.T) {
	const most = api.MaxEvents
	all := slices.Repeat([]api.In{{What: api.InTick}}, most)
	ticks := strings.Repeat("tick\n", most)
	mustParse(t, ticks, all...)
	mustParse(t, ticks[:len(ticks)-1], all...)
	mustParse(t, "\n#\n"+ticks+"\n# a remark\n\n", all...)
	mustFail(t, ticks+"tick", most+1, api.ErrLong)
	mustFail(t, ticks+"tick\n", most+1, api.ErrLong)
	mustFail(t, ticks+"tick\ntick\n", most+1, api.ErrLong)
	mustFail(t, "\n#\n"+ticks+"\n# a remark\n\nstop 1\ntick", most+6, api.ErrLong)
	mustFail(t, ticks+"tock\n", most+1, api.ErrForm) // it is no event that could be too many
	mustFail(t, ticks+"\ntick 01\ntick", most+2, api.ErrForm)
	mustFail(t, ticks+"tick\ntock", most+1, api.ErrLong) // the first line's error
	mustFail(t, "tock\n"+ticks+"tick\n", 1, api.ErrForm)
	mustFail(t, ticks[5:]+"tock\ntick\ntick", most, api.ErrForm)
}

// P23.1: a script of MaxScript bytes, and one more: that is told ahead of any line's error, with 0.
func TestLongScripts(t *testing.T) {
	const most = api.MaxScript
	mustParse(t, strings.Repeat("\n", most))
	mustParse(t, "#"+strings.Repeat(" ", most-1))
	mustParse(t, "tick\n#"+strings.Repeat("x", most-6), api.In{What: api.InTick})
	mustParse(t, strings.Repeat("\n", most-4)+"tick", api.In{What: api.InTick})
	mustFail(t, strings.Repeat("\n", most-4)+"tock", most-3, api.ErrForm)
	mustFail(t, strings.Repeat("\n", most-1)+" ", most, api.ErrForm)
	line := long(most)
	event, _, _ := script.Line(line)
	mustParse(t, line, event)
	mustFail(t, strings.Repeat(" ", most), 1, api.ErrForm)
	for _, s := range []string{line + "\n", "\n" + line, strings.Repeat("\n", most+1), "#" + strings.Repeat(" ", most), strings.Repeat("tock\n", most/5+1), strings.Repeat("tick\n", most), strings.Repeat("\n", 1<<22)} {
		mustFail(t, s, 0, api.ErrLong)
	}
}

// P4: events that are answered are new at each call.
func TestParseMemory(t *testing.T) {
	const s = "bytes 1 =00ff\nbytes 2 =ff00\n"
	want := []api.In{{What: api.InBytes, A: 1, Bytes: []byte{0, 255}}, {What: api.InBytes, A: 2, Bytes: []byte{255, 0}}}
	first, _, _ := script.Parse(s)
	second, _, _ := script.Parse(s)
	_ = append(first[0].Bytes, 7, 7, 7)
	if !slices.EqualFunc(first, want, same) {
		t.Errorf("%v", first)
	}
	for n := range first {
		clear(first[n].Bytes)
	}
	clear(first)
	if !slices.EqualFunc(second, want, same) {
		t.Errorf("%v", second)
	}
	mustParse(t, s, want...)
}

package script_test

import (
	"bytes"
	"fmt"
	"math"
	"slices"
	"strings"
	"testing"

	"aqueduct/api"
	"aqueduct/script"
)

// mustPrint asks twice for an event's line, looks at what was handed in, and reads the line (P23.3).
func mustPrint(t *testing.T, e api.In, want string) {
	t.Helper()
	was := e
	was.Bytes = bytes.Clone(e.Bytes)
	for range 2 {
		if s, no := script.Print(e); s != want || no != api.OK {
			t.Fatalf("Print(%.60v) = %.60q, %d, want %.60q", e, s, no, want)
		}
	}
	if !same(e, was) {
		t.Fatalf("what was handed in has changed: %v, was %v", e, was)
	}
	mustRead(t, want, e)
}

func mustNotPrint(t *testing.T, e api.In, want api.Errno) {
	t.Helper()
	for range 2 {
		if s, no := script.Print(e); s != "" || no != want {
			t.Fatalf("Print(%.60v) = %.60q, %d, want %d", e, s, no, want)
		}
	}
}

// P23.1: numbers at the end that are 0 are left out, others not.
func TestPrint(t *testing.T) {
	for what, name := range names {
		for _, c := range []struct {
			e api.In
			s string
		}{
			{api.In{}, ""},
			{api.In{A: 1}, " 1"},
			{api.In{B: 1}, " 0 1"},
			{api.In{Draw: 1}, " 0 0 1"},
			{api.In{A: 1, B: 2}, " 1 2"},
			{api.In{A: 1, Draw: 2}, " 1 0 2"},
			{api.In{B: 1, Draw: 2}, " 0 1 2"},
			{api.In{A: 10, B: 20, Draw: 30}, " 10 20 30"},
			{api.In{A: numberMost, B: numberMost, Draw: numberMost}, " 999999999 999999999 999999999"},
		} {
			c.e.What = what
			mustPrint(t, c.e, name+c.s)
			c.e.Bytes = []byte{}
			mustPrint(t, c.e, name+c.s)
			c.e.Bytes = []byte{0}
			mustPrint(t, c.e, name+c.s+" =00")
			c.e.Bytes = []byte{0x0a, 0xf0, 0xff}
			mustPrint(t, c.e, name+c.s+" =0af0ff")
		}
	}
	for n := range 256 {
		mustPrint(t, api.In{What: api.InBytes, Bytes: []byte{byte(n), 1}}, fmt.Sprintf("bytes =%02x01", n))
	}
	for n := range 1200 {
		mustPrint(t, api.In{What: api.InProbe, A: n, B: n * 800000}, strings.TrimSuffix(fmt.Sprintf("probe %d %d", n, n*800000), " 0 0"))
	}
}

// P23.1: what no line can tell: it is told ahead of ErrLong.
func TestPrintFaults(t *testing.T) {
	long := make([]byte, api.MaxScript)
	for _, what := range []int{-1, 8, 9, 99, 1 << 32, math.MinInt, math.MaxInt} {
		mustNotPrint(t, api.In{What: what}, api.ErrForm)
		mustNotPrint(t, api.In{What: what, A: 1, Bytes: []byte{1}}, api.ErrForm)
		mustNotPrint(t, api.In{What: what, A: -1, Bytes: long}, api.ErrForm)
		mustNotPrint(t, api.In{What: what, Bytes: long}, api.ErrForm)
	}
	for what := range names {
		for _, n := range []int{-1, -2, numberMost + 1, 1 << 31, 1 << 32, 1<<32 + 1, math.MinInt, math.MaxInt} {
			for _, e := range []api.In{{A: n}, {B: n}, {Draw: n}, {A: 1, B: n, Draw: 2}, {A: n, B: n, Draw: n}, {A: n, Bytes: long}, {B: n, Bytes: long}, {Draw: n, Bytes: long}} {
				e.What = what
				mustNotPrint(t, e, api.ErrForm)
			}
		}
	}
}

// P23.1: a line of MaxScript bytes, and longer ones.
func TestPrintLong(t *testing.T) {
	for what, name := range names {
		for _, c := range []struct {
			e    api.In
			head string
		}{
			{api.In{}, name},
			{api.In{A: 5}, name + " 5"},
			{api.In{A: 5, B: 10}, name + " 5 10"},
			{api.In{Draw: numberMost}, name + " 0 0 999999999"},
		} {
			c.e.What = what
			room := (api.MaxScript - len(c.head) - 2) / 2
			c.e.Bytes = bytes.Repeat([]byte{0xc3}, room)
			mustPrint(t, c.e, c.head+" ="+strings.Repeat("c3", room))
			for _, more := range []int{1, 2, 100, room, 2*room + 20, 1 << 22} {
				c.e.Bytes = make([]byte, room+more)
				mustNotPrint(t, c.e, api.ErrLong)
			}
		}
	}
}

// mustTell asks twice for a text, and looks at what was handed in.
func mustTell(t *testing.T, l []api.Out, want string) {
	t.Helper()
	was := fmt.Sprint(l)
	for range 2 {
		if s := script.Told(l); s != want {
			t.Fatalf("Told(%v) = %q, want %q", l, s, want)
		}
	}
	if fmt.Sprint(l) != was {
		t.Fatalf("what was handed in has changed: %v, was %v", l, was)
	}
}

// P23.1: a line of each, of bytes alone with bytes.
func TestTold(t *testing.T) {
	mustTell(t, nil, "")
	mustTell(t, []api.Out{}, "")
	mustTell(t, []api.Out{{}}, "bytes 0 =\n")
	mustTell(t, []api.Out{{What: api.OutBytes, A: 3, Bytes: []byte{}}}, "bytes 3 =\n")
	mustTell(t, []api.Out{{What: api.OutBytes, A: 12, Bytes: []byte{0, 0x0a, 0xb7, 0xff}}}, "bytes 12 =000ab7ff\n")
	mustTell(t, []api.Out{{What: api.OutClose}}, "close 0\n")
	mustTell(t, []api.Out{{What: api.OutDial}}, "dial 0\n")
	mustTell(t, []api.Out{{What: api.OutClose, A: 7, Bytes: []byte{1}}}, "close 7\n")
	mustTell(t, []api.Out{{What: api.OutDial, A: 15, Bytes: []byte{1}}}, "dial 15\n")
	mustTell(t, []api.Out{{What: api.OutDial, A: 2}, {What: api.OutDial, A: 1}, {What: api.OutBytes, A: 1, Bytes: []byte{10}}, {What: api.OutClose, A: 2}, {What: api.OutDial, A: 2}}, "dial 2\ndial 1\nbytes 1 =0a\nclose 2\ndial 2\n")
	for _, n := range []int{math.MinInt, -1 << 32, -10, -1, 1, 9, 10, numberMost, numberMost + 1, 1 << 32, math.MaxInt} {
		mustTell(t, []api.Out{{What: api.OutClose, A: n}}, fmt.Sprintf("close %d\n", n))
		mustTell(t, []api.Out{{What: api.OutDial, A: n}, {A: n}}, fmt.Sprintf("dial %d\nbytes %d =\n", n, n))
	}
	for n := range 256 {
		mustTell(t, []api.Out{{Bytes: []byte{byte(n)}}}, fmt.Sprintf("bytes 0 =%02x\n", n))
	}
	long := bytes.Repeat([]byte{0xd9}, 3*api.MaxScript) // no limit is named
	mustTell(t, []api.Out{{A: 1, Bytes: long}, {What: api.OutClose}}, "bytes 1 ="+strings.Repeat("d9", len(long))+"\nclose 0\n")
}

// P23.1: of other kinds nothing is told.
func TestToldOthers(t *testing.T) {
	var all []api.Out
	for _, what := range []int{-1, 3, 4, 7, 9, 1 << 32, math.MinInt, math.MaxInt} {
		o := api.Out{What: what, A: 1, Bytes: []byte{1}}
		mustTell(t, []api.Out{o}, "")
		mustTell(t, []api.Out{{What: api.OutDial}, o, {What: api.OutClose, A: 2}}, "dial 0\nclose 2\n")
		all = append(all, o)
	}
	mustTell(t, all, "")
	mustTell(t, slices.Concat(all, []api.Out{{What: api.OutDial, A: 4}}), "dial 4\n")
}

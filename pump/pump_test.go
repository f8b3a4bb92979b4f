package pump_test

import (
	"bytes"
	"fmt"
	"math"
	"math/rand"
	"slices"
	"testing"

	"aqueduct/api"
	"aqueduct/pump"
)

var tail = []api.Header{{Name: "a", Value: "b"}, {Name: "c", Value: "d", Secret: true}}

func newPump(t *testing.T, n int) *pump.Pump {
	t.Helper()
	p, e := pump.New(n)
	if p == nil || e != api.OK {
		t.Fatalf("New(%d) = %v, %d", n, p, e)
	}
	return p
}

func must(t *testing.T, what string, got, want api.Errno) {
	t.Helper()
	if got != want {
		t.Fatalf("%s = %d, want %d", what, got, want)
	}
}

func mustPut(t *testing.T, p *pump.Pump, s string) {
	t.Helper()
	must(t, "Put("+s+")", p.Put([]byte(s)), api.OK)
}

func mustNext(t *testing.T, p *pump.Pump, n int, want string, end bool) {
	t.Helper()
	for range 2 { // the bytes are there still
		if b, last := p.Next(n); string(b) != want || last != end {
			t.Fatalf("Next(%d) = %q, %v, want %q, %v", n, b, last, want, end)
		}
	}
}

func mustNotLast(t *testing.T, p *pump.Pump) {
	t.Helper()
	if l, ok := p.Last(); len(l) != 0 || ok {
		t.Fatalf("Last() = %v, %v, want none, false", l, ok)
	}
}

func mustLast(t *testing.T, p *pump.Pump, want []api.Header) {
	t.Helper()
	if l, ok := p.Last(); !slices.Equal(l, want) || !ok {
		t.Fatalf("Last() = %v, %v, want %v, true", l, ok, want)
	}
	mustNotLast(t, p)
}

// mustBe looks at all that a pump tells of itself without being changed.
func mustBe(t *testing.T, p *pump.Pump, held string, room int, open, end bool) {
	t.Helper()
	if p.Len() != len(held) || p.Room() != room || p.Open() != open {
		t.Fatalf("Len, Room, Open = %d, %d, %v, want %d, %d, %v", p.Len(), p.Room(), p.Open(), len(held), room, open)
	}
	mustNext(t, p, math.MaxInt, held, end)
}

// P20.1, P20.2: the chapter's example.
func TestExample(t *testing.T) {
	p := newPump(t, 4)
	mustPut(t, p, "abc")
	must(t, "Put(de)", p.Put([]byte("de")), api.ErrFull)
	mustNext(t, p, 2, "ab", false)
	must(t, "Done(2)", p.Done(2), api.OK)
	must(t, "End()", p.End(), api.OK)
	mustNext(t, p, 9, "c", true)
	must(t, "Done(1)", p.Done(1), api.OK)
	mustNext(t, p, 9, "", true)
}

// P20.1: n is 0 to MaxPump.
func TestNew(t *testing.T) {
	for _, n := range []int{0, 1, 2, api.MaxPump - 1, api.MaxPump} {
		mustBe(t, newPump(t, n), "", n, true, false)
	}
	for _, n := range []int{math.MinInt, -1, api.MaxPump + 1, api.MaxRing, math.MaxInt} {
		if p, e := pump.New(n); p != nil || e != api.ErrArg {
			t.Errorf("New(%d) = %v, %d, want none, ErrArg", n, p, e)
		}
	}
}

// P20.1: what has room is laid whole, and what has none not in part.
func TestPut(t *testing.T) {
	cases := []struct {
		room int
		held string
		put  []byte
		e    api.Errno
		want string
	}{
		{0, "", nil, api.OK, ""},
		{0, "", []byte("a"), api.ErrFull, ""},
		{3, "", []byte{}, api.OK, ""},
		{3, "a", nil, api.OK, "a"},
		{3, "a", []byte("b"), api.OK, "ab"},
		{3, "a", []byte("bc"), api.OK, "abc"},
		{3, "a", []byte("bcd"), api.ErrFull, "a"},
		{3, "", []byte("abcd"), api.ErrFull, ""},
		{3, "abc", nil, api.OK, "abc"},
		{3, "abc", []byte("d"), api.ErrFull, "abc"},
		{3, "", []byte{0, 255, 0}, api.OK, "\x00\xff\x00"},
	}
	for _, c := range cases {
		p := newPump(t, c.room)
		mustPut(t, p, c.held)
		must(t, fmt.Sprintf("%d, %q: Put(%q)", c.room, c.held, c.put), p.Put(c.put), c.e)
		mustBe(t, p, c.want, c.room-len(c.want), true, false)
	}
}

// P20.1: the greatest pump takes all that it has room for, and not one byte more.
func TestGreatest(t *testing.T) {
	p := newPump(t, api.MaxPump)
	b := make([]byte, api.MaxPump+1)
	for i := range b {
		b[i] = byte(i * 7 >> 3)
	}
	must(t, "Put(MaxPump + 1)", p.Put(b), api.ErrFull)
	must(t, "Put(MaxPump)", p.Put(b[:api.MaxPump]), api.OK)
	must(t, "Put(1)", p.Put(b[:1]), api.ErrFull)
	must(t, "Done(1000)", p.Done(1000), api.OK)
	must(t, "Put(1001)", p.Put(b[:1001]), api.ErrFull)
	must(t, "Put(1000)", p.Put(b[:1000]), api.OK)
	mustBe(t, p, string(b[1000:api.MaxPump])+string(b[:1000]), 0, true, false)
}

// closings are the calls behind which a pump is not open.
func closings() map[string]func(*pump.Pump) {
	return map[string]func(*pump.Pump){
		"End":       func(p *pump.Pump) { p.End() },
		"Tail":      func(p *pump.Pump) { p.Tail(tail) },
		"Tail none": func(p *pump.Pump) { p.Tail(nil) },
		"Cut":       (*pump.Pump).Cut,
	}
}

// P20.1: one that is not open takes nothing, and ErrState is told ahead of ErrFull.
func TestNotOpen(t *testing.T) {
	for name, shut := range closings() {
		for _, taken := range []bool{false, true} { // trailers that are gone do not open it again
			p := newPump(t, 4)
			mustPut(t, p, "ab")
			shut(p)
			held := p.Len()
			if taken {
				must(t, "Done", p.Done(held), api.OK)
				p.Last()
				held = 0
			}
			for _, b := range [][]byte{nil, []byte("c"), []byte("cdefg")} {
				must(t, name+": Put", p.Put(b), api.ErrState)
			}
			must(t, name+": End", p.End(), api.ErrState)
			must(t, name+": Tail", p.Tail([]api.Header{{Name: "x", Value: "y"}}), api.ErrState)
			must(t, name+": Tail none", p.Tail(nil), api.ErrState)
			if p.Open() || p.Len() != held || p.Room() != 4-held {
				t.Errorf("%s: Open, Len, Room = %v, %d, %d", name, p.Open(), p.Len(), p.Room())
			}
		}
	}
}

// P20.1: a refused Tail leaves the trailers, or that there are none, as they were.
func TestRefusedTail(t *testing.T) {
	p := newPump(t, 4)
	must(t, "Tail", p.Tail(tail), api.OK)
	must(t, "Tail", p.Tail(nil), api.ErrState)
	mustLast(t, p, tail)
	p = newPump(t, 4)
	must(t, "End", p.End(), api.OK)
	must(t, "Tail", p.Tail(tail), api.ErrState)
	mustBe(t, p, "", 4, false, true)
	mustNotLast(t, p)
}

// P20.2, P6: how many bytes Next answers, and whether these are all.
func TestNext(t *testing.T) {
	cases := []struct {
		n   int
		out string
	}{
		{math.MinInt, ""}, {-1, ""}, {0, ""}, {1, "a"}, {2, "ab"}, {3, "abc"}, {4, "abc"}, {math.MaxInt, "abc"},
	}
	for _, c := range cases {
		p := newPump(t, 5)
		mustPut(t, p, "abc")
		mustNext(t, p, c.n, c.out, false)
		must(t, "End", p.End(), api.OK)
		mustNext(t, p, c.n, c.out, c.out == "abc")
		mustBe(t, p, "abc", 2, false, true)
		p = newPump(t, 5)
		mustPut(t, p, "abc")
		must(t, "Tail", p.Tail(tail), api.OK)
		mustNext(t, p, c.n, c.out, false)
		p = newPump(t, 5) // of an empty one none is all, whatever is asked for
		mustNext(t, p, c.n, "", false)
		must(t, "End", p.End(), api.OK)
		mustNext(t, p, c.n, "", true)
	}
}

// P20.2, P6: n is 0 to Len(), of a pump that is open and of one that is not.
func TestDone(t *testing.T) {
	for _, open := range []bool{true, false} {
		for n := range 4 {
			p := newPump(t, 5)
			mustPut(t, p, "abc")
			if !open {
				must(t, "End", p.End(), api.OK)
			}
			for _, wrong := range []int{math.MinInt, -1, 4, 5, math.MaxInt} {
				must(t, fmt.Sprintf("Done(%d)", wrong), p.Done(wrong), api.ErrArg)
			}
			mustBe(t, p, "abc", 2, open, !open)
			must(t, fmt.Sprintf("Done(%d)", n), p.Done(n), api.OK)
			mustBe(t, p, "abc"[n:], 2+n, open, !open)
			must(t, "Done past the end", p.Done(4-n), api.ErrArg)
		}
	}
}

// P20.2: the trailers are told behind all bytes, once; behind them there are none.
func TestLast(t *testing.T) {
	for _, l := range [][]api.Header{tail, tail[:1], {}, nil} {
		p := newPump(t, 5)
		mustPut(t, p, "ab")
		mustNotLast(t, p)
		must(t, "Tail", p.Tail(l), api.OK)
		mustNotLast(t, p)
		must(t, "Done(1)", p.Done(1), api.OK)
		mustNotLast(t, p)
		mustBe(t, p, "b", 4, false, false)
		must(t, "Done(1)", p.Done(1), api.OK)
		mustBe(t, p, "", 5, false, false)
		mustLast(t, p, l)
		mustBe(t, p, "", 5, false, true)
	}
}

// P20.2: without trailers Last tells none, whether the pump is open or has ended.
func TestLastOfNone(t *testing.T) {
	p := newPump(t, 5)
	mustNotLast(t, p)
	mustBe(t, p, "", 5, true, false)
	must(t, "End", p.End(), api.OK)
	mustNotLast(t, p)
	mustBe(t, p, "", 5, false, true)
}

// P20.2: Cut lets bytes and trailers go, in each state, and again.
func TestCut(t *testing.T) {
	cases := closings()
	cases["open"] = func(*pump.Pump) {}
	for name, before := range cases {
		for _, held := range []string{"", "abc", "abcde"} {
			p := newPump(t, 5)
			mustPut(t, p, held)
			before(p)
			for range 2 {
				p.Cut()
				mustBe(t, p, "", 5, false, true)
				mustNotLast(t, p)
				must(t, name+": Done(0)", p.Done(0), api.OK)
				must(t, name+": Done(1)", p.Done(1), api.ErrArg)
				must(t, name+": Put", p.Put(nil), api.ErrState)
			}
		}
	}
}

// P20.3, P1: ErrZero comes ahead of all other errors.
func TestNilAndUnmade(t *testing.T) {
	for name, p := range map[string]*pump.Pump{"nil": nil, "unmade": new(pump.Pump)} {
		for range 2 {
			for _, b := range [][]byte{nil, {}, []byte("abc")} {
				must(t, name+": Put", p.Put(b), api.ErrZero)
			}
			must(t, name+": End", p.End(), api.ErrZero)
			must(t, name+": Tail", p.Tail(tail), api.ErrZero)
			must(t, name+": Tail", p.Tail(nil), api.ErrZero)
			for _, n := range []int{math.MinInt, -1, 0, 1, math.MaxInt} {
				must(t, name+": Done", p.Done(n), api.ErrZero)
				mustNext(t, p, n, "", false)
			}
			mustNotLast(t, p)
			mustBe(t, p, "", 0, false, false)
			p.Cut()
		}
	}
}

// P4: what is handed in is neither changed nor kept, and what is answered is new memory.
func TestMemory(t *testing.T) {
	p := newPump(t, 8)
	b := []byte("abcd")
	must(t, "Put", p.Put(b), api.OK)
	must(t, "Put", p.Put(b), api.OK)
	copy(b, "....")
	first, _ := p.Next(8)
	copy(first, "!!!!")
	_ = append(first[:4], "????"...)
	mustBe(t, p, "abcdabcd", 0, true, false)
	second, _ := p.Next(3)
	must(t, "Done", p.Done(8), api.OK)
	must(t, "Put", p.Put([]byte("wxyz")), api.OK)
	if string(second) != "abc" {
		t.Errorf("an answer has become %q", second)
	}
	l := slices.Clone(tail)
	must(t, "Tail", p.Tail(l[:1]), api.OK)
	if !slices.Equal(l, tail) {
		t.Errorf("Tail has changed its list to %v", l)
	}
	l[0] = api.Header{Name: "x", Value: "y"}
	must(t, "Done", p.Done(4), api.OK)
	got, _ := p.Last()
	if !slices.Equal(got, tail[:1]) {
		t.Errorf("Last() = %v, want %v", got, tail[:1])
	}
	got[0] = api.Header{}
	if l[0].Name != "x" {
		t.Error("Last has answered the list that was handed in")
	}
}

// P5: pumps do not hang on one another.
func TestApart(t *testing.T) {
	p, q := newPump(t, 4), newPump(t, 4)
	mustPut(t, p, "ab")
	mustPut(t, q, "cde")
	must(t, "Tail", p.Tail(tail), api.OK)
	mustBe(t, q, "cde", 1, true, false)
	q.Cut()
	mustBe(t, p, "ab", 2, false, false)
	must(t, "Done", p.Done(2), api.OK)
	mustLast(t, p, tail)
}

// plain is a pump as the chapter's words have it.
type plain struct {
	room  int
	bytes []byte
	open  bool
	tail  []api.Header
	some  bool
}

func (m *plain) put(b []byte) api.Errno {
	switch {
	case !m.open:
		return api.ErrState
	case len(b)+len(m.bytes) > m.room:
		return api.ErrFull
	}
	m.bytes = append(m.bytes, b...)
	return api.OK
}

func (m *plain) shut(l []api.Header, some bool) api.Errno {
	if !m.open {
		return api.ErrState
	}
	m.open, m.tail, m.some = false, l, some
	return api.OK
}

func (m *plain) next(n int) ([]byte, bool) {
	n = max(0, min(n, len(m.bytes)))
	return m.bytes[:n], n == len(m.bytes) && !m.open && !m.some
}

func (m *plain) done(n int) api.Errno {
	if n < 0 || n > len(m.bytes) {
		return api.ErrArg
	}
	m.bytes = m.bytes[n:]
	return api.OK
}

func (m *plain) last() ([]api.Header, bool) {
	if m.open || len(m.bytes) > 0 || !m.some {
		return nil, false
	}
	l := m.tail
	m.tail, m.some = nil, false
	return l, true
}

// twin is a pump beside its plain one, with all bytes that went in and out.
type twin struct {
	*pump.Pump
	plain
	row       []string
	in, out   []byte
	went, cut bool
}

func newTwin(t *testing.T, room int) *twin {
	t.Helper()
	return &twin{Pump: newPump(t, room), plain: plain{room: room, open: true}}
}

// say remembers a call and holds its two answers against each other.
func (w *twin) say(t *testing.T, call string, got, want any) {
	t.Helper()
	w.row = append(w.row, call)
	if fmt.Sprint(got) != fmt.Sprint(want) {
		t.Fatalf("%v: %v, want %v", w.row, got, want)
	}
}

// step makes a call of the kind k with the number n on both.
func (w *twin) step(t *testing.T, k, n int) {
	t.Helper()
	switch k {
	case 0:
		b := make([]byte, max(0, n))
		for i := range b {
			b[i] = byte(len(w.in) + i)
		}
		e := w.Put(b)
		w.say(t, fmt.Sprintf("Put(%d)", len(b)), e, w.put(b))
		if e == api.OK {
			w.in = append(w.in, b...)
		}
	case 1:
		b, _ := w.Next(n)
		e := w.Done(n)
		w.say(t, fmt.Sprintf("Done(%d)", n), e, w.done(n))
		if e == api.OK {
			w.out = append(w.out, b...)
		}
	case 2:
		w.say(t, "End", w.End(), w.shut(nil, false))
	case 3:
		l := tail[:max(0, min(n, len(tail)))]
		w.say(t, fmt.Sprintf("Tail(%d)", len(l)), w.Tail(l), w.shut(l, true))
	case 4:
		l, ok := w.Last()
		m, also := w.last()
		w.say(t, "Last", fmt.Sprint(len(l), l, ok), fmt.Sprint(len(m), m, also))
		if ok && w.went {
			t.Fatalf("%v: trailers twice", w.row)
		}
		w.went = w.went || ok
	case 5:
		w.Cut()
		w.bytes, w.plain.open, w.tail, w.some, w.cut = nil, false, nil, false, true
	}
	b, last := w.Next(n)
	c, also := w.next(n)
	w.say(t, fmt.Sprintf("Next(%d)", n), fmt.Sprint(b, last), fmt.Sprint(c, also))
	w.say(t, "Len", w.Len(), len(w.bytes))
	w.say(t, "Room", w.Room(), w.room-len(w.bytes))
	w.say(t, "Open", w.Open(), w.plain.open)
	w.row = w.row[:len(w.row)-4]
	w.judge(t)
}

// judge is P20.4: what went out is a beginning of what went in, and the rest is there, or was cut.
func (w *twin) judge(t *testing.T) {
	t.Helper()
	left, _ := w.Next(math.MaxInt)
	all := slices.Concat(w.out, left)
	if !bytes.HasPrefix(w.in, all) || !w.cut && len(all) != len(w.in) {
		t.Fatalf("%v: in %v, out %v, left %v", w.row, w.in, w.out, left)
	}
	if w.went && len(left) > 0 {
		t.Fatalf("%v: trailers ahead of bytes", w.row)
	}
}

// P20.1, P20.2, P20.4: all rows of five calls.
func TestAllRows(t *testing.T) {
	calls := [][2]int{{0, 1}, {0, 2}, {1, 1}, {1, 3}, {2, 0}, {3, 0}, {3, 1}, {4, 0}, {5, 0}}
	const long = 5
	n := 1
	for range long {
		n *= len(calls)
	}
	for row := range n {
		w := newTwin(t, 3)
		for range long {
			c := calls[row%len(calls)]
			w.step(t, c[0], c[1])
			row /= len(calls)
		}
	}
}

// P20.1, P20.2, P20.4: long rows, in which closing is seldom.
func TestRandomRows(t *testing.T) {
	draw := rand.New(rand.NewSource(20))
	for range 300 {
		room := draw.Intn(40)
		w := newTwin(t, room)
		for range 200 {
			k := draw.Intn(2)
			if draw.Intn(40) == 0 {
				k = draw.Intn(6)
			}
			w.step(t, k, draw.Intn(room+4)-2)
		}
	}
}

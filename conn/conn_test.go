package conn_test

import (
	"bytes"
	"encoding/hex"
	"math"
	"strings"
	"testing"

	"aqueduct/api"
	"aqueduct/conn"
)

// P15.1: each bound of a setup, and one more.
func TestNewBounds(t *testing.T) {
	for _, c := range []struct {
		name        string
		field       func(s *api.Setup) *int
		least, most int
	}{
		{"Streams", func(s *api.Setup) *int { return &s.Streams }, 0, 1024},
		{"Window", func(s *api.Setup) *int { return &s.Window }, 0, 2147483647},
		{"Frame", func(s *api.Setup) *int { return &s.Frame }, 16384, 16777215},
		{"List", func(s *api.Setup) *int { return &s.List }, 0, 2147483647},
		{"Table", func(s *api.Setup) *int { return &s.Table }, 0, 65536},
		{"Queue", func(s *api.Setup) *int { return &s.Queue }, 0, 1 << 20},
	} {
		for _, end := range []bool{true, false} {
			s := setup(end)
			for _, n := range []int{c.least, c.least + 1, c.most - 1, c.most} {
				*c.field(&s) = n
				mustNew(t, s)
			}
			for _, n := range []int{c.least - 1, c.most + 1, math.MinInt, math.MaxInt, -1} {
				*c.field(&s) = n
				if got, e := conn.New(s); got != nil || e != api.ErrArg {
					t.Errorf("New with %s %d = %v, %d", c.name, n, got, e)
				}
			}
		}
	}
	if c, e := conn.New(api.Setup{}); c != nil || e != api.ErrArg {
		t.Errorf("New of nothing = %v, %d", c, e)
	}
}

// P15.1: what each end writes first, byte by byte.
func TestGreetings(t *testing.T) {
	head := func(n string) string { return "0000" + n + "0400" + "00000000" }
	for _, c := range []struct {
		s    api.Setup
		want string
	}{
		{setup(true), head("24") + "000100001000" + "000300000004" + "000400000064" + "000500004000" + "000600000fa0" + "000800000001"},
		{setup(false), head("1e") + "000100001000" + "000200000000" + "000400000064" + "000500004000" + "000600000fa0"},
		{api.Setup{Server: true, Streams: 1024, Window: api.MaxWindow, Frame: api.MaxFrame, List: api.MaxInt, Table: api.MaxTable, Queue: api.MaxRing},
			head("24") + "000100010000" + "000300000400" + "00047fffffff" + "000500ffffff" + "00067fffffff" + "000800000001"},
		{api.Setup{Frame: api.MinFrame}, head("1e") + "000100000000" + "000200000000" + "000400000000" + "000500004000" + "000600000000"},
	} {
		want, _ := hex.DecodeString(c.want)
		if !c.s.Server {
			want = append([]byte(preface), want...)
		}
		n := mustNew(t, c.s)
		if n.Waiting() != len(want) || n.Held() != len(want) {
			t.Errorf("Waiting() = %d, Held() = %d, want %d", n.Waiting(), n.Held(), len(want))
		}
		if got := n.Out(most); !bytes.Equal(got, want) {
			t.Errorf("Out() = %x, want %x", got, want)
		}
	}
}

// P15.1: the settings wait to be acknowledged, once.
func TestGreetingIsAcknowledged(t *testing.T) {
	for _, end := range []bool{true, false} {
		p := met(t, setup(end))
		p.send(acknowledged())
		p.fails(api.CProtocol, 0)
	}
}

// meet lets two ends greet each other.
func meet(t *testing.T, c, s *conn.Conn) {
	t.Helper()
	for i := range 2 {
		a, e := s.In(c.Out(most))
		b, f := c.In(s.Out(most))
		if e != api.OK || f != api.OK || len(a) != 1-i || len(b) != 1-i {
			t.Fatalf("greeting: %v, %d; %v, %d", a, e, b, f)
		}
		if i == 0 && (told(a[0]) != "open" || told(b[0]) != "open") {
			t.Fatalf("greeting: %v, %v", a, b)
		}
	}
}

// The examples of the chapter.
func TestExamples(t *testing.T) {
	c, s := mustNew(t, setup(false)), mustNew(t, setup(true))
	meet(t, c, s)
	if id, e := c.Open(request("GET"), true); id != 1 || e != api.OK {
		t.Fatalf("Open = %d, %d", id, e)
	}
	if l, e := s.In(c.Out(most)); e != api.OK || len(l) != 1 || told(l[0]) != "headers 1 :method=GET end" {
		t.Errorf("In = %v, %d", l, e)
	}
	p := raw(t, setup(true))
	p.feed([]byte("GET / HTTP/1.1"))
	p.fails(api.CProtocol, 0)
}

// P15.7: of no connection.
func TestNone(t *testing.T) {
	for _, c := range []*conn.Conn{nil, {}, new(conn.Conn)} {
		for _, n := range []int{math.MinInt, -1, 0, 1, math.MaxInt} {
			if b := c.Out(n); len(b) != 0 {
				t.Errorf("Out(%d) = %x", n, b)
			}
			for _, l := range [][]api.Header{nil, request("GET"), make([]api.Header, 1025)} {
				if id, e := c.Open(l, true); id != 0 || e != api.ErrZero {
					t.Errorf("Open = %d, %d", id, e)
				}
				if e := c.Headers(n, l, true); e != api.ErrZero {
					t.Errorf("Headers = %d", e)
				}
			}
			if k, e := c.Data(n, []byte("x"), true); k != 0 || e != api.ErrZero {
				t.Errorf("Data = %d, %d", k, e)
			}
			if e := c.Reset(n, n); e != api.ErrZero {
				t.Errorf("Reset = %d", e)
			}
			if e := c.Used(n, n); e != api.ErrZero {
				t.Errorf("Used = %d", e)
			}
			if e := c.Goaway(n); e != api.ErrZero {
				t.Errorf("Goaway = %d", e)
			}
			if c.Room(n) != 0 || c.State(n) != 0 {
				t.Errorf("Room = %d, State = %d", c.Room(n), c.State(n))
			}
		}
		for _, b := range [][]byte{nil, []byte(preface)} {
			if l, e := c.In(b); len(l) != 0 || e != api.ErrZero {
				t.Errorf("In = %v, %d", l, e)
			}
		}
		if c.Ready() || c.Slots() != 0 || c.Failed() != -1 || len(c.Streams()) != 0 || c.Waiting() != 0 || c.Held() != 0 {
			t.Errorf("%v, %d, %d, %v, %d, %d", c.Ready(), c.Slots(), c.Failed(), c.Streams(), c.Waiting(), c.Held())
		}
	}
}

// P15.7: what is told of a connection at first, and when the peer's settings have come.
func TestReady(t *testing.T) {
	for _, end := range []bool{true, false} {
		p := raw(t, setup(end))
		asked := func(ready bool) {
			t.Helper()
			if p.c.Ready() != ready || p.c.Failed() != -1 {
				t.Errorf("Ready() = %v, Failed() = %d", p.c.Ready(), p.c.Failed())
			}
			p.streamsAre()
			for _, id := range []int{math.MinInt, -1, 0, 1, 2, api.MaxID, math.MaxInt} {
				p.stateIs(id, api.SIdle)
			}
		}
		asked(false)
		p.slotsAre(0)
		if end {
			p.feed([]byte(preface))
		}
		asked(false)
		p.send(settings())
		p.tells("open")
		asked(true)
		p.send(settings())
		p.tells()
		asked(true)
		p.send(acknowledged())
		p.tells()
		asked(true)
	}
}

// P15.7: slots are what the peer allows, at most MaxStreams, less those that are open; none, where Open would answer ErrState.
func TestSlots(t *testing.T) {
	p := client(t)
	p.slotsAre(1024)
	for _, c := range []struct {
		value uint32
		want  int
	}{{3, 3}, {0, 0}, {1024, 1024}, {1025, 1024}, {1<<32 - 1, 1024}, {2, 2}} {
		p.send(settings(api.Setting{ID: api.SetStreams, Value: c.value}))
		p.slotsAre(c.want)
	}
	p.frames()
	p.opens(request("GET"), true)
	p.slotsAre(1)
	p.opens(request("POST"), false)
	p.slotsAre(0)
	p.openIs(request("GET"), true, 0, api.ErrFull)
	p.send(settings(api.Setting{ID: api.SetStreams, Value: 1}))
	p.slotsAre(0)
	p.send(p.head(1, response("200"), true))
	p.slotsAre(0)
	p.resetIs(3, api.CCancel, api.OK)
	p.slotsAre(1)
	p.frames()
	p.opens(request("GET"), true)
	p.slotsAre(0)
	p.send(settings(api.Setting{ID: api.SetStreams, Value: 9}))
	p.slotsAre(8)
	p.goawayIs(0, api.OK)
	p.slotsAre(0)
	p.openIs(request("GET"), true, 0, api.ErrState)

	p = client(t)
	p.send(goaway(0, 0))
	p.slotsAre(0)
	p.openIs(request("GET"), true, 0, api.ErrState)
	p = server(t)
	p.slotsAre(0)
	p.openIs(request("GET"), true, 0, api.ErrState)
	p = raw(t, setup(false))
	p.slotsAre(0)
	p.openIs(request("GET"), true, 0, api.ErrState)
}

// P15.7: what waits, and what is held: that, what is in the reader and the joiner, and both tables.
func TestHeld(t *testing.T) {
	p := client(t)
	p.waitingIs(0)
	p.heldIs(0)
	p.openIs(request("POST", "a", "b"), false, 1, api.OK)
	n := p.c.Waiting()
	const entry = 34
	p.heldIs(n + entry)
	p.dataAre(1, "12345", false, 5, api.OK)
	p.headersAre(1, list("trailer", "behind"), true, api.OK)
	p.waitingIs(n + 5)
	p.heldIs(n + 5 + entry)
	if b := p.c.Out(4); len(b) != 4 {
		t.Errorf("Out(4) = %x", b)
	}
	p.waitingIs(n + 1)
	p.c.Out(n - 4)
	p.waitingIs(5)
	p.c.Out(11)
	p.waitingIs(3)
	p.heldIs(3 + entry)
	p.c.Out(most)
	p.waitingIs(0)
	const sent = entry + 7 + 6 + 32
	p.heldIs(sent)

	p.feed(p.bytesOf(ping("12345678"))[:16])
	p.heldIs(sent + 16)
	p.feed([]byte("8"))
	p.heldIs(sent + 17)
	p.waitingIs(17)
	p.frames()
	p.heldIs(sent)
	l := p.head(1, response("200", "c", "d"), false)
	half := api.Frame{Type: api.FHeaders, Stream: 1, Payload: l.Payload[:3]}
	p.send(half)
	p.heldIs(sent + 3)
	b := p.bytesOf(api.Frame{Type: api.FContinue, Flags: api.FlagDone, Stream: 1, Payload: l.Payload[3:]})
	p.feed(b[:10])
	p.heldIs(sent + 3 + 10)
	p.feed(b[10:])
	p.tells("headers 1 :status=200 c=d")
	p.heldIs(sent + entry)
	p.send(data(1, "held by others", false))
	p.heldIs(sent + entry)
	p.send(half)
	p.feed(append(p.bytesOf(ping("12345678")), "the rest"...))
	p.tells("fault code 1")
	p.heldIs(17 + sent + entry)
	p.waitingIs(17)
}

// P4: what is handed in is neither changed nor kept.
func TestArguments(t *testing.T) {
	p := client(t)
	l := request("POST", "a", "b")
	body, trailers := []byte("0123456789"), list("x", "y")
	p.openIs(l, false, 1, api.OK)
	if n, e := p.c.Data(1, body, false); n != 10 || e != api.OK {
		t.Fatalf("Data = %d, %d", n, e)
	}
	p.headersAre(1, trailers, true, api.OK)
	if headers(l) != " :method=POST a=b" || string(body) != "0123456789" || headers(trailers) != " x=y" {
		t.Errorf("changed: %v, %s, %v", l, body, trailers)
	}
	clear(l)
	clear(body)
	clear(trailers)
	p.writes("HEADERS 1 :method=POST a=b", "DATA 1 '0123456789'", "HEADERS 1 x=y end")

	b := p.bytesOf(p.head(1, response("200", "c", "d"), false), data(1, "abcdef", false), ping("12345678"))
	whole := bytes.Clone(b)
	p.feed(b[:len(b)-1])
	if !bytes.Equal(b, whole) {
		t.Error("what came was changed")
	}
	clear(b[:len(b)-1])
	p.tells("headers 1 :status=200 c=d", "data 1 'abcdef'")
	p.feed(b[len(b)-1:])
	p.writes("PING '12345678' end")
}

// P4: answers are memory of their own.
func TestAnswers(t *testing.T) {
	p := client(t)
	p.opens(request("POST"), false)
	p.dataAre(1, strings.Repeat("x", 30), false, 30, api.OK)
	spoil := func(b []byte) {
		b = b[:cap(b)]
		for i := range b {
			b[i] = '!'
		}
	}
	p.send(ping("12345678"))
	spoil(p.c.Out(9))
	if b := p.c.Out(8); string(b) != "12345678" {
		t.Errorf("Out = %q", b)
	}
	spoil(p.c.Out(20))
	if b := p.c.Out(most); string(b[9:]) != strings.Repeat("x", 19) {
		t.Errorf("Out = %q", b)
	}
	p.send(p.head(1, response("200"), false), data(1, "abc", false), data(1, "def", false))
	p.tells("headers 1 :status=200", "data 1 'abc'", "data 1 'def'")
	spoil(p.events[1].Bytes)
	p.tells("headers 1 :status=200", "data 1 '!!!'", "data 1 'def'")
	ids := p.c.Streams()
	clear(ids[:cap(ids)])
	p.streamsAre(1)
}

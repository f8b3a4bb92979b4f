package conn_test

import (
	"math"
	"slices"
	"strconv"
	"strings"
	"testing"

	"aqueduct/api"
	"aqueduct/frame"
	"aqueduct/hpack"
)

// P15.3: what is used is given back once it is half of the window, of the stream and of the connection.
func TestUsed(t *testing.T) {
	p := server(t)
	p.asks(1, request("POST"), false)
	p.usedIs(1, 0, api.OK)
	p.usedIs(1, 1, api.ErrArg)
	p.send(data(1, strings.Repeat("x", 100), false))
	p.usedIs(1, 101, api.ErrArg)
	p.usedIs(1, -1, api.ErrArg)
	p.usedIs(1, math.MinInt, api.ErrArg)
	p.usedIs(1, math.MaxInt, api.ErrArg)
	for _, id := range []int{math.MinInt, -1, 0, 2, 3, api.MaxID, math.MaxInt} {
		p.usedIs(id, 0, api.ErrNone)
		p.usedIs(id, -1, api.ErrNone)
	}
	p.usedIs(1, 49, api.OK)
	p.usedIs(1, 0, api.OK)
	p.writes()
	p.usedIs(1, 52, api.ErrArg)
	p.usedIs(1, 1, api.OK)
	p.writes("WINDOW 1 inc 50")
	p.usedIs(1, 50, api.OK)
	p.writes("WINDOW 1 inc 50")
	p.usedIs(1, 1, api.ErrArg)
	p.send(data(1, strings.Repeat("x", 100), false))
	p.tells("data 1 100 bytes")
	p.usedIs(1, 99, api.OK)
	p.writes("WINDOW 1 inc 99")
	p.send(data(1, strings.Repeat("x", 99), false))
	p.tells("data 1 99 bytes")
	p.send(data(1, "x", false))
	p.tells("bad 1 code 3")
}

// P15.3: windows of 0 and 1, of which all is half.
func TestSmallWindows(t *testing.T) {
	s := setup(true)
	s.Window = 1
	p := met(t, s)
	p.asks(1, request("POST"), false)
	p.send(data(1, "x", false))
	p.usedIs(1, 1, api.OK)
	p.writes("WINDOW 1 inc 1")
	p.usedIs(1, 0, api.OK)
	p.writes()
	s.Window = 3
	p = met(t, s)
	p.asks(1, request("POST"), false)
	p.send(data(1, "xxx", false))
	p.usedIs(1, 1, api.OK)
	p.writes()
	p.usedIs(1, 1, api.OK)
	p.writes("WINDOW 1 inc 2")

	s.Window = 0
	p = raw(t, s)
	p.feed([]byte(preface))
	p.send(settings())
	p.c.Out(most)
	p.asks(1, request("POST"), false)
	p.send(data(1, "xxx", false), acknowledged())
	p.tells("data 1 'xxx'")
	p.usedIs(1, 0, api.OK)
	p.writes()
	p.usedIs(1, 1, api.OK)
	p.writes("WINDOW 1 inc 1")
	p.usedIs(1, 2, api.OK)
	p.writes("WINDOW 1 inc 2")
	p.send(data(1, "x", false))
	p.tells("bad 1 code 3")
}

// P15.3: a stream's part is given back ahead of the connection's; of a stream that the peer has ended the connection's alone.
func TestCreditInOrder(t *testing.T) {
	s := wide(true)
	s.Window = 40000
	full := strings.Repeat("x", 16384)
	p := met(t, s)
	p.asks(1, request("POST"), false)
	p.asks(3, request("POST"), false)
	p.send(data(1, full, false), data(1, full, false), data(3, full, true))
	p.tells("data 1 16384 bytes", "data 1 16384 bytes", "data 3 16384 bytes end")
	p.usedIs(1, 19999, api.OK)
	p.writes()
	p.usedIs(3, 12768, api.OK)
	p.writes()
	p.usedIs(1, 1, api.OK)
	p.writes("WINDOW 1 inc 20000", "WINDOW inc 32768")
	p.usedIs(3, 3616, api.OK)
	p.usedIs(3, 1, api.ErrArg)
	p.stateIs(3, api.SRemote)
	p.usedIs(3, 0, api.OK)
	p.writes()
	p.headersAre(3, response("200"), true, api.OK)
	p.usedIs(3, 0, api.ErrNone)
}

// P15.3: of a stream that this end has ended alone credit is given still; of one that both have ended not.
func TestCreditByState(t *testing.T) {
	p := client(t)
	p.opens(request("GET"), true)
	p.answers(1, response("200"), false)
	p.send(data(1, strings.Repeat("x", 60), false))
	p.stateIs(1, api.SLocal)
	p.usedIs(1, 60, api.OK)
	p.writes("WINDOW 1 inc 60")
	p.send(data(1, strings.Repeat("x", 60), true))
	p.stateIs(1, api.SClosed)
	p.usedIs(1, 61, api.ErrArg)
	p.usedIs(1, 59, api.OK)
	p.writes()
	p.usedIs(1, 1, api.OK)
	p.usedIs(1, 0, api.ErrNone)
	p.writes()
}

// P15.3: padding is used at once, of both, with its number's byte; none is held.
func TestPadding(t *testing.T) {
	p := server(t)
	p.asks(1, request("POST"), false)
	p.send(padded(1, "", 48, false))
	p.tells()
	p.writes()
	p.send(padded(1, "abc", 0, false))
	p.tells("data 1 'abc'")
	p.writes("WINDOW 1 inc 50")
	p.usedIs(1, 4, api.ErrArg)
	p.usedIs(1, 3, api.OK)
	p.send(padded(1, "", 96, true))
	p.tells("data 1 end")
	p.writes()
	p.usedIs(1, 1, api.ErrArg)

	p = met(t, wide(true))
	p.asks(1, request("POST"), false)
	for range 127 {
		p.send(padded(1, "x", 255, false))
	}
	p.writes()
	p.send(padded(1, strings.Repeat("x", 100), 255, false))
	p.writes("WINDOW inc 32768")
	p.usedIs(1, 228, api.ErrArg)
	p.usedIs(1, 227, api.OK)
}

// P15.3: what is held of a stream that goes is used of the connection's credit: of bad ones, of reset ones.
func TestForgottenIsUsed(t *testing.T) {
	full := strings.Repeat("x", 16384)
	start := func() *peer {
		p := met(t, wide(true))
		p.asks(1, request("POST"), false)
		p.send(data(1, full, false), data(1, full[1:], false), data(1, "y", false))
		return p
	}
	p := start()
	p.resetIs(1, 8, api.OK)
	p.writes("RST 1 code 8", "WINDOW inc 32768")
	p = start()
	p.send(reset(1, 8))
	p.tells("reset 1 code 8")
	p.writes("WINDOW inc 32768")
	p = start()
	p.send(grow(1, api.MaxWindow))
	p.tells("bad 1 code 3")
	p.writes("RST 1 code 3", "WINDOW inc 32768")
	p = start()
	p.usedIs(1, 1, api.OK)
	p.send(p.head(1, nil, false))
	p.tells("bad 1 code 1")
	p.writes("RST 1 code 1", "WINDOW inc 32768")
	p = start()
	p.send(data(1, "z", true), data(1, "late", false))
	p.tells("data 1 'z' end", "bad 1 code 5")
	p.writes("RST 1 code 5", "WINDOW inc 32769")

	p = met(t, wide(false))
	p.opens(request("GET"), true)
	p.answers(1, response("200"), false)
	p.send(data(1, full, false), data(1, full, false), goaway(0, 0))
	p.tells("data 1 16384 bytes", "data 1 16384 bytes", "goaway", "reset 1 code 7")
	p.writes("WINDOW inc 32768")
}

// P15.2, P15.3: the weight of bad data is used, behind what the stream has held.
func TestBadDataAreUsed(t *testing.T) {
	full := strings.Repeat("x", 16384)
	for _, bad := range []struct {
		l    []api.Header
		last api.Frame
		code string
	}{
		{request("POST", "content-length", "16384"), data(1, full, true), "1"},
		{request("POST", "content-length", "99999"), data(1, full, true), "1"},
		{request("POST", "content-length", "16384"), padded(1, full[256:], 255, false), "1"},
	} {
		p := met(t, wide(true))
		p.asks(1, bad.l, false)
		p.send(data(1, full, false), bad.last)
		p.tells("data 1 16384 bytes", "bad 1 code "+bad.code)
		p.writes("RST 1 code "+bad.code, "WINDOW inc 32768")
	}
	s := wide(true)
	s.Window = 16384
	p := met(t, s)
	p.asks(1, request("POST"), false)
	p.send(data(1, full, false), data(1, full, false))
	p.tells("data 1 16384 bytes", "bad 1 code 3")
	p.writes("RST 1 code 3", "WINDOW inc 32768")
	p = met(t, wide(true))
	p.asks(1, request("POST"), false)
	p.send(data(1, full, true), data(1, full, true))
	p.tells("data 1 16384 bytes end", "bad 1 code 5")
	p.writes("RST 1 code 5", "WINDOW inc 32768")
	p = met(t, wide(false))
	p.opens(request("POST"), false)
	p.opens(request("POST"), false)
	p.send(data(1, full, false), data(3, full, true))
	p.tells("bad 1 code 1", "bad 3 code 1")
	p.writes("RST 1 code 1", "RST 3 code 1", "WINDOW inc 32768")
	p = met(t, wide(true))
	p.asks(1, request("POST"), false)
	p.send(data(1, full, false), data(1, full, false), data(1, "", true), data(1, full, false))
	p.writes("RST 1 code 5", "WINDOW inc 32768")
	p.asks(3, request("POST"), false)
	p.send(data(3, full, false))
	p.usedIs(3, 16384, api.OK)
	p.writes("WINDOW inc 32768")
}

// refusedLists are such as hpack refuses, whatever else is wrong with them.
func refusedLists() [][]api.Header {
	return [][]api.Header{
		make([]api.Header, api.MaxHeaders+1),
		request("GET", "x", strings.Repeat("y", api.MaxText+1)),
		response("200", "x", strings.Repeat("y", api.MaxText+1)),
		list(strings.Repeat("y", api.MaxText+1), ""),
	}
}

// P15.4: Open's errors, each ahead of those behind it; nothing has changed then.
func TestOpenErrors(t *testing.T) {
	server := server(t)
	early := raw(t, setup(false))
	early.c.Out(most)
	failed := client(t)
	failed.send(grow(0, api.MaxWindow))
	failed.c.Out(most)
	left := client(t)
	left.goawayIs(0, api.OK)
	left.c.Out(most)
	leaving := client(t)
	leaving.send(goaway(0, 0))
	for _, p := range []*peer{server, early, failed, left, leaving} {
		for _, l := range refusedLists() {
			p.openIs(l, true, 0, api.ErrArg)
		}
		for _, l := range [][]api.Header{nil, request("GET"), list("X", "y")} {
			p.openIs(l, true, 0, api.ErrState)
		}
		p.waitingIs(0)
	}
	p := met(t, setup(false), api.Setting{ID: api.SetStreams, Value: 0})
	for _, c := range []struct {
		l []api.Header
		e api.Errno
	}{
		{nil, api.ErrPseudo}, {response("200"), api.ErrPseudo}, {request("GET", "X", "y"), api.ErrName}, {request("GET", "x", " "), api.ErrValue},
		{request("GET", "upgrade", "x"), api.ErrConn}, {request("GET", "content-length", "x"), api.ErrLength}, {request("GET"), api.ErrFull},
	} {
		p.openIs(c.l, false, 0, c.e)
	}
	for _, l := range refusedLists() {
		p.openIs(l, true, 0, api.ErrArg)
	}
	p.streamsAre()
	p.stateIs(1, api.SIdle)
	p.waitingIs(0)
	p.heldIs(0)
	p.send(settings(api.Setting{ID: api.SetStreams, Value: 2}))
	p.writes("SETTINGS end")
	p.opens(request("GET"), true)
	p.opens(request("POST"), false)
	p.stateIs(1, api.SLocal)
	p.stateIs(3, api.SOpen)
	p.openIs(request("GET"), true, 0, api.ErrFull)
	p.stateIs(5, api.SIdle)
}

// P15.4: Open is refused while more than MaxBlock bytes that are written wait; bytes that wait to be sent do not count.
func TestOpenFull(t *testing.T) {
	p := met(t, wide(false))
	p.opens(request("POST"), false)
	p.dataAre(1, strings.Repeat("x", api.MaxRing), true, api.MaxRing, api.OK)
	big := request("POST", "x!", strings.Repeat("~", 16000))
	for range 4 {
		p.openIs(big, true, 3+2*(p.c.Waiting()-api.MaxRing)/16000, api.OK)
	}
	n := p.c.Waiting() - api.MaxRing
	if n >= api.MaxBlock {
		t.Fatalf("%d wait", n)
	}
	for p.c.Waiting()-api.MaxRing+17 <= api.MaxBlock {
		p.send(ping("12345678"))
	}
	p.c.Out(p.c.Waiting() - api.MaxRing + 17 - api.MaxBlock)
	p.send(ping("12345678"))
	p.waitingIs(api.MaxRing + api.MaxBlock)
	p.openIs(list("X", "y"), true, 0, api.ErrName)
	p.openIs(big, true, 11, api.OK)
	p.openIs(request("GET"), true, 0, api.ErrFull)
	p.openIs(list("X", "y"), true, 0, api.ErrName)
	p.openIs(refusedLists()[0], true, 0, api.ErrArg)
	p.c.Out(p.c.Waiting() - api.MaxRing - api.MaxBlock - 1)
	p.openIs(request("GET"), true, 0, api.ErrFull)
	p.c.Out(1)
	p.openIs(request("GET"), true, 13, api.OK)
	p.slotsAre(api.MaxStreams - 7)
}

// P15.4: streams that a peer does not let open are ErrFull, up to MaxStreams.
func TestOpenMany(t *testing.T) {
	p := client(t)
	for i := range api.MaxStreams {
		p.slotsAre(api.MaxStreams - i)
		p.openIs(request("GET"), true, 2*i+1, api.OK)
	}
	p.openIs(request("GET"), true, 0, api.ErrFull)
	p.slotsAre(0)
}

// P15.4: what Open and Headers write: blocks cut at MinFrame, secrets kept out of tables.
func TestWrittenBlocks(t *testing.T) {
	p := met(t, wide(false), api.Setting{ID: api.SetFrame, Value: api.MaxFrame})
	l := request("GET", "x!", strings.Repeat("~", 16000), "y!", strings.Repeat("~", 16000), "cookie!", "a")
	p.openIs(l, true, 1, api.OK)
	b := p.c.Out(most)
	var sizes, kinds, flags []int
	for at := 0; at < len(b); {
		n, kind, flag, id, _ := frame.Head(b[at:])
		sizes, kinds, flags = append(sizes, n), append(kinds, kind), append(flags, flag)
		if id != 1 {
			t.Errorf("a frame of stream %d", id)
		}
		at += 9 + n
	}
	if len(sizes) != 2 || sizes[0] != api.MinFrame || !slices.Equal(kinds, []int{api.FHeaders, api.FContinue}) || !slices.Equal(flags, []int{api.FlagEnd, api.FlagDone}) {
		t.Errorf("frames %v of %v with %v", kinds, sizes, flags)
	}
	if got := p.parsed(b); len(got) != 1 || got[0] != "HEADERS 1"+headers(l)+" end" {
		t.Errorf("written %.100q", got)
	}
	p.heldIs(0)
	p.opens(request("GET", "x", "y"), true)
	p.heldIs(34)
	p.opens(request("GET", "x", "y"), true)
	e, _ := hpack.NewEncoder(4096)
	e.Encode(request("GET", "x", "y"))
	same, _ := e.Encode(request("GET", "x", "y"))
	p.openIs(request("GET", "x", "y"), true, 7, api.OK)
	if got := p.c.Out(most); string(got[9:]) != string(same) {
		t.Errorf("written %x, want %x", got[9:], same)
	}
}

// P15.4: responses of a server's end: any number below 200, then one, then trailers.
func TestSendResponse(t *testing.T) {
	p := server(t)
	p.asks(1, request("GET"), true)
	p.dataAre(1, "x", false, 0, api.ErrState)
	p.headersAre(1, list("x", "y"), true, api.ErrPseudo)
	p.headersAre(1, response("99"), false, api.ErrPseudo)
	p.headersAre(1, response("200", "X", "y"), false, api.ErrName)
	p.headersAre(1, response("200", "content-length", "x"), false, api.ErrLength)
	p.headersAre(1, response("100", "X", "y"), true, api.ErrName)
	p.headersAre(1, response("100"), true, api.ErrArg)
	p.headersAre(1, response("199"), true, api.ErrArg)
	for _, l := range refusedLists() {
		p.headersAre(1, l, true, api.ErrArg)
	}
	p.writes()
	p.headersAre(1, response("100"), false, api.OK)
	p.dataAre(1, "x", false, 0, api.ErrState)
	p.dataAre(1, "", true, 0, api.ErrState)
	p.headersAre(1, response("199", "a", "b"), false, api.OK)
	p.headersAre(1, response("200"), false, api.OK)
	p.writes("HEADERS 1 :status=100", "HEADERS 1 :status=199 a=b", "HEADERS 1 :status=200")
	p.stateIs(1, api.SRemote)
	p.headersAre(1, response("200"), true, api.ErrPseudo)
	p.headersAre(1, list("X", "y"), false, api.ErrName)
	p.headersAre(1, list("x", "y"), false, api.ErrArg)
	for _, l := range refusedLists() {
		p.headersAre(1, l, true, api.ErrArg)
	}
	p.headersAre(1, list("x", "y"), true, api.OK)
	p.writes("HEADERS 1 x=y end")
	p.stateIs(1, api.SClosed)
	p.headersAre(1, list("x", "y"), true, api.ErrNone)
	p.dataAre(1, "x", true, 0, api.ErrNone)

	p.asks(3, request("GET"), false)
	p.headersAre(3, response("500"), true, api.OK)
	p.writes("HEADERS 3 :status=500 end")
	p.stateIs(3, api.SLocal)
	p.headersAre(3, list("x", "y"), true, api.ErrState)
	p.headersAre(3, list("X", "y"), false, api.ErrState)
	p.headersAre(3, refusedLists()[0], false, api.ErrState)
	p.dataAre(3, "", true, 0, api.ErrState)
	p.send(data(3, "abc", true))
	p.stateIs(3, api.SClosed)
	p.headersAre(3, list("x", "y"), true, api.ErrNone)
	p.headersAre(3, refusedLists()[0], true, api.ErrNone)
	p.usedIs(3, 3, api.OK)
}

// P15.4: streams that are not known.
func TestUnknown(t *testing.T) {
	for _, end := range []bool{true, false} {
		p := met(t, setup(end))
		for _, id := range []int{math.MinInt, -1, 0, 1, 2, api.MaxID, api.MaxID + 1, math.MaxInt} {
			p.headersAre(id, response("200"), true, api.ErrNone)
			p.headersAre(id, refusedLists()[1], true, api.ErrNone)
			p.dataAre(id, "x", true, 0, api.ErrNone)
			p.resetIs(id, 0, api.ErrNone)
			p.resetIs(id, -1, api.ErrNone)
			p.usedIs(id, 0, api.ErrNone)
			p.roomIs(id, 0)
			p.stateIs(id, api.SIdle)
		}
		p.waitingIs(0)
	}
}

// P15.4: trailers wait behind data; till then nothing more can be handed in.
func TestSendTrailers(t *testing.T) {
	p := client(t)
	p.opens(request("POST"), false)
	p.dataAre(1, "abc", false, 3, api.OK)
	p.headersAre(1, list("x", "y"), true, api.OK)
	p.stateIs(1, api.SOpen)
	p.waitingIs(3)
	p.headersAre(1, list("x", "y"), true, api.ErrState)
	p.headersAre(1, list("X", "y"), true, api.ErrName)
	p.headersAre(1, list("x", "y"), false, api.ErrArg)
	p.headersAre(1, refusedLists()[0], true, api.ErrArg)
	p.dataAre(1, "d", false, 0, api.ErrState)
	p.dataAre(1, "", true, 0, api.ErrState)
	p.writes("DATA 1 'abc'", "HEADERS 1 x=y end")
	p.stateIs(1, api.SLocal)
	p.headersAre(1, list("x", "y"), true, api.ErrState)
	p.writes()

	p.opens(request("POST"), false)
	p.headersAre(3, nil, true, api.OK)
	p.stateIs(3, api.SLocal)
	p.writes("HEADERS 3 end")
	p.opens(request("POST"), false)
	p.dataAre(5, "abc", false, 3, api.OK)
	p.headersAre(5, nil, true, api.OK)
	p.writes("DATA 5 'abc'", "HEADERS 5 end")
	p.opens(request("POST"), false)
	p.dataAre(7, "abc", true, 3, api.OK)
	p.headersAre(7, list("x", "y"), true, api.ErrState)
	p.dataAre(7, "", false, 0, api.ErrState)
	p.writes("DATA 7 'abc' end")
	p.opens(request("GET"), true)
	p.headersAre(9, list("x", "y"), true, api.ErrState)
	p.dataAre(9, "", true, 0, api.ErrState)
	p.writes()
}

// P15.4: data wait as far as there is room.
func TestDataRoom(t *testing.T) {
	p := client(t)
	p.opens(request("POST"), false)
	p.roomIs(1, 300)
	p.dataAre(1, "", false, 0, api.OK)
	p.dataAre(1, strings.Repeat("a", 100), false, 100, api.OK)
	p.roomIs(1, 200)
	p.dataAre(1, strings.Repeat("b", 201), true, 200, api.OK)
	p.roomIs(1, 0)
	p.dataAre(1, "c", true, 0, api.OK)
	p.dataAre(1, "", false, 0, api.OK)
	p.waitingIs(300)
	p.c.Out(9 + 10)
	p.roomIs(1, 10)
	p.dataAre(1, strings.Repeat("c", 10), true, 10, api.OK)
	p.roomIs(1, 0)
	p.dataAre(1, "", true, 0, api.ErrState)
	p.writes("DATA 1 300 bytes end")
	p.roomIs(1, 300)

	s := setup(false)
	s.Queue = 0
	p = met(t, s)
	p.opens(request("POST"), false)
	p.roomIs(1, 0)
	p.dataAre(1, "x", true, 0, api.OK)
	p.dataAre(1, "", true, 0, api.OK)
	p.dataAre(1, "", true, 0, api.ErrState)
	p.writes("DATA 1 end")
}

// P15.5: Reset gives a stream up: nothing is told, and what waits of it is gone.
func TestSendReset(t *testing.T) {
	p := client(t)
	p.opens(request("POST"), false)
	p.opens(request("POST"), false)
	p.opens(request("POST"), true)
	p.dataAre(1, "gone", false, 4, api.OK)
	p.headersAre(1, list("x", "y"), true, api.OK)
	p.dataAre(3, "stays", true, 5, api.OK)
	for _, code := range []int{-1, math.MinInt, 1 << 32, math.MaxInt} {
		p.resetIs(1, code, api.ErrArg)
	}
	p.stateIs(1, api.SOpen)
	p.resetIs(1, 1<<32-1, api.OK)
	p.stateIs(1, api.SClosed)
	p.resetIs(1, 0, api.ErrNone)
	p.resetIs(1, -1, api.ErrNone)
	p.resetIs(5, 0, api.OK)
	p.streamsAre(3)
	p.roomIs(1, 0)
	p.writes("RST 1 code 4294967295", "RST 5", "DATA 3 'stays' end")
	p.send(p.head(1, response("200"), false), data(1, "abc", true), p.head(5, nil, false), reset(5, 0), grow(5, 1))
	p.tells()
	p.writes()

	p = server(t)
	p.asks(1, request("GET"), true)
	p.resetIs(1, 7, api.OK)
	p.writes("RST 1 code 7")
}

// P15.5: the last 64 that were reset are remembered.
func TestDropped(t *testing.T) {
	p := client(t)
	for id := 1; id < 2*66; id += 2 {
		p.opens(request("GET"), true)
		p.resetIs(id, 8, api.OK)
		p.writes("RST " + strconv.Itoa(id) + " code 8")
	}
	p.send(data(5, "late", true), data(131, "late", true))
	p.tells()
	p.send(data(3, "late", true))
	p.fails(api.CClosed, 0)
}

// P15.5: Goaway, once.
func TestSendGoaway(t *testing.T) {
	p := server(t)
	p.asks(1, request("GET"), true)
	p.asks(7, request("GET"), true)
	for _, code := range []int{-1, math.MinInt, 1 << 32, math.MaxInt} {
		p.goawayIs(code, api.ErrArg)
	}
	p.goawayIs(1<<32-1, api.OK)
	p.goawayIs(0, api.ErrState)
	p.goawayIs(-1, api.ErrArg)
	p.writes("GOAWAY last 7 code 4294967295")
	p.streamsAre(1, 7)
	p.send(reset(2, 0))
	p.fails(api.CProtocol, 7)

	p = client(t)
	p.opens(request("POST"), false)
	p.goawayIs(2, api.OK)
	p.writes("GOAWAY code 2")
	p.openIs(request("GET"), true, 0, api.ErrState)
	p.dataAre(1, "goes on", true, 7, api.OK)
	p.writes("DATA 1 'goes on' end")
	p.answers(1, response("200"), true)

	p = raw(t, setup(true))
	p.goawayIs(0, api.OK)
	if got := p.frames(); len(got) != 2 || got[1] != "GOAWAY" {
		t.Errorf("written %q", got)
	}
}

// P15.6: no bytes, if n is below 1; else as many as may be, frame by frame.
func TestOutBounds(t *testing.T) {
	p := client(t)
	p.opens(request("POST"), false)
	p.dataAre(1, "abcdef", true, 6, api.OK)
	p.send(ping("12345678"))
	for _, n := range []int{math.MinInt, -1, 0} {
		if b := p.c.Out(n); len(b) != 0 {
			t.Errorf("Out(%d) = %x", n, b)
		}
	}
	all := p.bytesOf(api.Frame{Type: api.FPing, Flags: api.FlagAck, Payload: []byte("12345678")})
	for i, want := range all {
		if b := p.c.Out(1); len(b) != 1 || b[0] != want {
			t.Fatalf("Out(1), %d: %x", i, b)
		}
	}
	for n := range 10 { // a head and no byte
		if b := p.c.Out(n); len(b) != 0 {
			t.Errorf("Out(%d) = %x", n, b)
		}
	}
	p.waitingIs(6)
	for _, c := range []struct {
		n    int
		want string
	}{{10, "DATA 1 'a'"}, {11, "DATA 1 'bc'"}, {12, "DATA 1 'def' end"}} {
		if got := p.parsed(p.c.Out(c.n)); len(got) != 1 || got[0] != c.want {
			t.Errorf("Out(%d): %q, want %q", c.n, got, c.want)
		}
	}
	p.writes()
	p.opens(request("POST"), false)
	p.dataAre(3, "", true, 0, api.OK)
	for n := range 9 {
		if b := p.c.Out(n); len(b) != 0 {
			t.Errorf("Out(%d) = %x", n, b)
		}
	}
	p.stateIs(3, api.SOpen)
	if got := p.parsed(p.c.Out(9)); len(got) != 1 || got[0] != "DATA 3 end" {
		t.Errorf("Out(9): %q", got)
	}
	p.stateIs(3, api.SLocal)
	p.opens(request("POST"), false)
	p.dataAre(5, "abc", false, 3, api.OK)
	p.headersAre(5, list("x", "y"), true, api.OK)
	b := p.c.Out(12) // n is done: its trailers have no turn
	p.stateIs(5, api.SOpen)
	p.waitingIs(0)
	if got := p.c.Out(0); len(got) != 0 {
		t.Errorf("Out(0) = %x", got)
	}
	p.stateIs(5, api.SOpen)
	b = append(b, p.c.Out(1)...)
	if len(b) != 13 {
		t.Errorf("Out(12), Out(1) = %x", b)
	}
	p.stateIs(5, api.SLocal)
	b = append(b, p.c.Out(most)...)
	if got := p.parsed(b); !slices.Equal(got, []string{"DATA 5 'abc'", "HEADERS 5 x=y end"}) {
		t.Errorf("written %q", got)
	}
	if got := p.c.Out(math.MaxInt); len(got) != 0 {
		t.Errorf("Out of nothing = %x", got)
	}
}

// P15.6: what is written goes first, then streams in turn, rising, behind the one that was served last.
func TestTurns(t *testing.T) {
	p := client(t)
	for range 6 {
		p.opens(request("POST"), false)
	}
	for _, id := range []int{5, 1, 7, 3} {
		p.dataAre(id, strings.Repeat("x", 4), true, 4, api.OK)
	}
	one := func(n int, want ...string) {
		t.Helper()
		if got := p.parsed(p.c.Out(n)); !slices.Equal(got, want) {
			t.Errorf("Out(%d): %q, want %q", n, got, want)
		}
	}
	one(10, "DATA 1 'x'")
	one(21, "DATA 3 'xxxx' end") // 8 are left: too few for any other
	p.send(ping("12345678"))
	one(17+10, "PING '12345678' end", "DATA 5 'x'")
	one(10, "DATA 7 'x'")
	one(10, "DATA 1 'x'")
	one(10, "DATA 5 'x'")
	p.dataAre(9, "y", false, 1, api.OK)
	one(13, "DATA 7 'xxx' end")
	one(most, "DATA 9 'y'", "DATA 1 'xx' end", "DATA 5 'xx' end")
	p.dataAre(9, "y", false, 1, api.OK)
	p.headersAre(9, list("x", "y"), true, api.OK)
	p.dataAre(11, "y", false, 1, api.OK)
	one(most, "DATA 9 'y'", "DATA 11 'y'", "HEADERS 9 x=y end")
}

// P15.6: windows of a stream, of the connection, the peer's frames.
func TestOutWindows(t *testing.T) {
	p := met(t, wide(false), api.Setting{ID: api.SetWindow, Value: 10})
	p.opens(request("POST"), false)
	p.opens(request("POST"), false)
	p.dataAre(1, strings.Repeat("x", 25), true, 25, api.OK)
	p.dataAre(3, strings.Repeat("y", 10), true, 10, api.OK)
	p.writes("DATA 1 'xxxxxxxxxx'", "DATA 3 'yyyyyyyyyy' end")
	p.writes()
	p.waitingIs(15)
	p.send(grow(1, 14))
	p.writes("DATA 1 'xxxxxxxxxxxxxx'")
	p.send(grow(1, 1))
	p.writes("DATA 1 'x' end")

	big := strings.Repeat("x", 100000)
	p = met(t, wide(false), api.Setting{ID: api.SetWindow, Value: api.MaxWindow})
	for range 3 {
		p.opens(request("POST"), false)
	}
	p.dataAre(1, big, false, 100000, api.OK)
	p.dataAre(3, "y", false, 1, api.OK)
	p.writes("DATA 1 16384 bytes", "DATA 3 'y'", "DATA 1 16384 bytes", "DATA 1 16384 bytes", "DATA 1 16382 bytes")
	p.dataAre(3, "", true, 0, api.OK)
	p.headersAre(5, list("x", "y"), true, api.OK)
	p.writes("HEADERS 5 x=y end", "DATA 3 end")
	p.send(settings(api.Setting{ID: api.SetFrame, Value: 20000}), grow(0, 30000))
	p.writes("SETTINGS end", "DATA 1 20000 bytes", "DATA 1 10000 bytes")
	p.send(grow(0, 5000), settings(api.Setting{ID: api.SetFrame, Value: api.MaxFrame}))
	p.writes("SETTINGS end", "DATA 1 4466 bytes")
	p.dataAre(1, "z", true, 1, api.OK)
	p.writes("DATA 1 'z' end")
}

// P15.6: an end and trailers need no window, and go behind the bytes alone.
func TestEndsNeedNoWindow(t *testing.T) {
	p := met(t, setup(false), api.Setting{ID: api.SetWindow, Value: 0})
	for range 4 {
		p.opens(request("POST"), false)
	}
	p.dataAre(1, "", true, 0, api.OK)
	p.headersAre(3, list("x", "y"), true, api.OK)
	p.dataAre(5, "abc", true, 3, api.OK)
	p.dataAre(7, "abc", false, 3, api.OK)
	p.headersAre(7, list("x", "y"), true, api.OK)
	p.writes("HEADERS 3 x=y end", "DATA 1 end")
	p.send(grow(5, 2), grow(7, 3))
	p.writes("DATA 5 'ab'", "DATA 7 'abc'", "HEADERS 7 x=y end")
	p.send(grow(5, 1))
	p.writes("DATA 5 'c' end")
	p.streamsAre(1, 3, 5, 7)
}

// P15.6: an end steps the stream; one that both have ended is closed, and known as long as it has data held.
func TestEndsStep(t *testing.T) {
	p := server(t)
	for id := 1; id < 8; id += 2 {
		p.asks(id, request("POST"), false)
		p.headersAre(id, response("200"), false, api.OK)
		p.frames()
	}
	p.send(data(1, "", true), data(3, "abc", true), data(5, "", true))
	p.dataAre(1, "x", true, 1, api.OK)
	p.dataAre(3, "", true, 0, api.OK)
	p.dataAre(5, "x", false, 1, api.OK)
	p.headersAre(5, list("x", "y"), true, api.OK)
	p.dataAre(7, "x", true, 1, api.OK)
	p.streamsAre(1, 3, 5, 7)
	p.writes("DATA 1 'x' end", "DATA 3 end", "DATA 5 'x'", "DATA 7 'x' end", "HEADERS 5 x=y end")
	p.streamsAre(7)
	p.stateIs(7, api.SLocal)
	p.usedIs(1, 0, api.ErrNone)
	p.usedIs(3, 3, api.OK)
	p.usedIs(3, 0, api.ErrNone)
	p.usedIs(5, 0, api.ErrNone)
	p.send(data(7, "abc", true))
	p.usedIs(7, 3, api.OK)
	p.usedIs(7, 0, api.ErrNone)
	p.asks(9, request("POST"), false) // those that are closed count no more
	p.asks(11, request("POST"), false)
	p.asks(13, request("POST"), false)
	p.asks(15, request("POST"), false)
}

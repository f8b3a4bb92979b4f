package conn_test

import (
	"strconv"
	"strings"
	"testing"

	"aqueduct/api"
)

// P15.2: the preface, in one piece and byte by byte, and with every byte another one.
func TestPreface(t *testing.T) {
	p := raw(t, setup(true))
	p.c.Out(most)
	for i := range preface {
		p.feed([]byte(preface[i : i+1]))
		p.tells()
		p.feed(nil)
		p.tells()
		p.heldIs(0)
	}
	p.send(settings())
	p.tells("open")
	for i := range preface {
		for _, cut := range []int{0, i, i + 1} {
			wrong := []byte(preface)
			wrong[i] ^= 1
			p := raw(t, setup(true))
			p.feed(wrong[:cut])
			if cut <= i {
				p.tells()
				p.feed(wrong[cut : i+1])
			}
			p.fails(api.CProtocol, 0)
		}
	}
	p = raw(t, setup(true))
	p.feed(append([]byte(preface), p.bytesOf(settings(), acknowledged(), ping("12345678"))...))
	p.tells("open")
	if got := p.frames(); len(got) != 3 || got[2] != "PING '12345678' end" {
		t.Errorf("written %q", got)
	}
}

// P15.2: a client's end takes no preface.
func TestNoPreface(t *testing.T) {
	p := raw(t, setup(false))
	p.c.Out(most)
	p.feed([]byte(preface))
	p.fails(api.CSize, 0)
}

// greeted is the peer of an end that was greeted as far as the preface.
func greeted(t *testing.T, end bool) *peer {
	p := raw(t, setup(end))
	if end {
		p.feed([]byte(preface))
	}
	p.c.Out(most)
	return p
}

// P15.2: the first frame is SETTINGS that is no acknowledgement; what is wrong with it goes ahead.
func TestFirstFrame(t *testing.T) {
	for _, end := range []bool{true, false} {
		for kind := range 10 {
			if kind != api.FSettings {
				body := map[int]string{api.FPriority: "12345", api.FReset: "1234", api.FPush: "1234", api.FPing: "12345678", api.FGoaway: "12345678", api.FWindow: "1234"}[kind]
				stream := map[int]int{api.FPing: 0, api.FGoaway: 0}
				id, there := stream[kind]
				if !there {
					id = 1
				}
				p := greeted(t, end)
				p.feed(made(kind, 0, id, body))
				p.fails(api.CProtocol, 0)
			}
		}
		for _, c := range []struct {
			b    []byte
			code int
		}{
			{made(api.FSettings, api.FlagAck, 0, ""), api.CProtocol},
			{made(api.FSettings, 0xff, 0, ""), api.CProtocol},
			{made(api.FSettings, api.FlagAck, 0, "123456"), api.CSize},
			{made(api.FSettings, 0, 0, "12345"), api.CSize},
			{made(api.FSettings, 0, 1, ""), api.CProtocol},
			{made(api.FSettings, 0, 0, "\x00\x05\x00\x00\x00\x00"), api.CProtocol},
			{made(api.FSettings, 0, 0, "\x00\x04\xff\xff\xff\xff"), api.CFlow},
			{made(api.FPriority, 0, 1, "1234"), api.CSize},
			{made(api.FWindow, 0, 1, "\x00\x00\x00\x00"), api.CProtocol},
			{made(api.FContinue, 0, 1, ""), api.CProtocol},
			{made(api.FHeaders, 0, 1, ""), api.CProtocol},
		} {
			p := greeted(t, end)
			p.feed(c.b)
			p.fails(c.code, 0)
		}
		p := greeted(t, end)
		p.feed(made(99, 1, 5, "unknown"))
		p.tells()
		p.feed(made(api.FSettings, 0xfe, 0, ""))
		p.tells("open")
		p.writes("SETTINGS end")
	}
}

// P15.2: frames may have as many bytes as the setup says.
func TestFrameSize(t *testing.T) {
	s := setup(true)
	s.Frame = 20000
	for _, c := range []struct {
		s    api.Setup
		most int
	}{{setup(true), api.MinFrame}, {s, 20000}} {
		p := met(t, c.s)
		p.feed(made(99, 0, 0, strings.Repeat("x", c.most)))
		p.tells()
		p.feed(made(99, 0, 0, strings.Repeat("x", c.most+1))[:9])
		p.fails(api.CSize, 0)
	}
}

// P15.2: faults of frames: of the connection, or of streams, idle, closed, dropped, open.
func TestFrameFaults(t *testing.T) {
	short := func(id int) []byte { return made(api.FPriority, 0, id, "1234") }
	nought := func(id int) []byte { return made(api.FWindow, 0, id, "\x00\x00\x00\x00") }
	for _, c := range []struct {
		b    []byte
		code int
	}{
		{nought(0), api.CProtocol}, {made(api.FPing, 0, 0, "1234"), api.CSize}, {made(api.FReset, 0, 1, "123"), api.CSize},
		{made(api.FData, 0, 0, ""), api.CProtocol}, {made(api.FData, api.FlagPad, 1, ""), api.CSize}, {made(api.FGoaway, 0, 0, "1234567"), api.CSize},
		{made(api.FData, api.FlagPad, 1, "\x02x"), api.CProtocol},
		{nought(3), api.CProtocol}, {short(3), api.CSize}, {nought(2), api.CProtocol}, {short(2), api.CSize},
	} {
		p := server(t)
		p.asks(1, request("POST"), false)
		p.feed(c.b)
		p.fails(c.code, 1)
	}
	p := server(t)
	for id := 1; id < 9; id += 2 {
		p.asks(id, request("POST"), false)
	}
	p.send(reset(1, 0))
	p.resetIs(3, 0, api.OK)
	p.writes("RST 3")
	for id := 1; id < 4; id += 2 {
		p.feed(append(short(id), nought(id)...))
		p.tells()
		p.writes()
	}
	p.feed(short(5))
	p.tells("bad 5 code 6")
	p.writes("RST 5 code 6")
	p.feed(nought(7))
	p.tells("bad 7 code 1")
	p.writes("RST 7 code 1")
	p.streamsAre()
	p.feed(append(short(5), nought(7)...))
	p.tells()
	p.writes()
}

// P15.2: header blocks in pieces; nothing between them; no more than MaxBlock bytes.
func TestBlocks(t *testing.T) {
	p := server(t)
	h := p.head(1, request("GET", "a", strings.Repeat("b", 100)), true)
	p.send(api.Frame{Type: api.FHeaders, Flags: api.FlagEnd, Stream: 1, Payload: h.Payload[:10]})
	p.tells()
	p.streamsAre()
	p.send(api.Frame{Type: api.FContinue, Stream: 1, Payload: h.Payload[10:20]})
	p.tells()
	p.send(api.Frame{Type: api.FContinue, Flags: api.FlagDone, Stream: 1, Payload: h.Payload[20:]})
	p.tells("headers 1 :method=GET a=" + strings.Repeat("b", 100) + " end")
	p.streamsAre(1)

	h = p.head(3, request("GET"), true)
	h.Flags |= api.FlagPad | api.FlagPrio
	h.Pad, h.Dep, h.Weight = 9, 3, 7
	p.send(h)
	p.tells("headers 3 :method=GET end")

	for _, f := range []api.Frame{ping("12345678"), p.head(5, request("GET"), true), {Type: api.FContinue, Stream: 5}, settings(), data(3, "", false), {Type: api.FPriority, Stream: 3, Weight: 1}} {
		p := server(t)
		p.send(api.Frame{Type: api.FHeaders, Stream: 3}, f)
		p.fails(api.CProtocol, 0)
	}
	p = server(t)
	p.send(api.Frame{Type: api.FContinue, Flags: api.FlagDone, Stream: 1})
	p.fails(api.CProtocol, 0)
}

// P15.2: a block of MaxBlock bytes is decoded, one more is CCalm, whatever it would have told.
func TestLongBlocks(t *testing.T) {
	piece := strings.Repeat("\x82", api.MinFrame)
	for extra := range 2 {
		p := server(t)
		p.send(api.Frame{Type: api.FHeaders, Stream: 1, Payload: []byte(piece)})
		for range 2 {
			p.send(api.Frame{Type: api.FContinue, Stream: 1, Payload: []byte(piece)})
		}
		p.tells()
		if extra == 1 {
			p.send(api.Frame{Type: api.FContinue, Stream: 1, Payload: []byte{0x82}})
			p.tells()
		}
		p.send(api.Frame{Type: api.FContinue, Flags: api.FlagDone, Stream: 1, Payload: []byte(piece)})
		if extra == 1 {
			p.fails(api.CCalm, 0)
		} else {
			p.tells("bad 1 code 11")
			p.writes("RST 1 code 11")
		}
	}
}

// P15.2: blocks that can't be decoded, of whatever stream.
func TestCompress(t *testing.T) {
	bad := func(id int) api.Frame {
		return api.Frame{Type: api.FHeaders, Flags: api.FlagDone, Stream: id, Payload: []byte{0x80}}
	}
	for _, id := range []int{1, 2, 3, 5, 7} {
		p := server(t)
		p.asks(1, request("POST"), false)
		p.asks(3, request("POST"), true)
		p.asks(5, request("POST"), true)
		p.resetIs(3, 0, api.OK)
		p.send(reset(5, 0))
		p.send(bad(id))
		p.fails(api.CCompress, 5)
		p = client(t)
		p.opens(request("POST"), false)
		p.send(bad(id))
		p.fails(api.CCompress, 0)
	}
	p := server(t)
	p.send(api.Frame{Type: api.FHeaders, Flags: api.FlagDone, Stream: 1, Payload: []byte{0x3f, 0xe2, 0x1f}})
	p.fails(api.CCompress, 0) // a table of 4097
	s := setup(true)
	s.Table = 4097
	p = met(t, s)
	p.send(api.Frame{Type: api.FHeaders, Flags: api.FlagDone, Stream: 1, Payload: []byte{0x3f, 0xe2, 0x1f, 0x82, 0x87, 0x84}})
	p.tells("headers 1 :method=GET")
}

// P15.2: a list that is too large makes its stream bad, and the tables stay the same.
func TestLargeLists(t *testing.T) {
	s := setup(true)
	s.List = 161
	p := met(t, s)
	p.asks(1, request("POST"), false) // 43 + 44 + 38
	p.asks(3, request("POST", "a", "bcd"), false)
	p.send(p.head(5, request("POST", "a", "bcde"), false))
	p.tells("bad 5 code 11")
	p.writes("RST 5 code 11")
	p.stateIs(5, api.SClosed)
	p.send(p.head(7, request("POST", "a", "bcde"), true))
	p.tells("bad 7 code 11")
	p.writes("RST 7 code 11")
	p.asks(9, list(":method", "CONNECT", ":authority", "abcde"), false)
	p.send(p.head(1, list("a", "bcde", "x", strings.Repeat("y", 100)), true))
	p.tells("bad 1 code 11")
	p.writes("RST 1 code 11")
	p.send(p.head(3, list("a", "bcde"), true))
	p.tells("trailers 3 a=bcde end")
	p.streamsAre(3, 9)

	s.Server = false
	p = met(t, s)
	p.opens(request("POST"), false)
	p.send(p.head(1, response("200", "a", strings.Repeat("b", 100)), false))
	p.tells("bad 1 code 11")
	p.writes("RST 1 code 11")
	p.opens(request("POST"), true)
	p.send(p.head(3, response("200", "a", strings.Repeat("b", 100)), true))
	p.tells("bad 3 code 11")
	p.writes("RST 3 code 11")
	p.stateIs(3, api.SClosed)
	p.send(p.head(1, response("200", "a", strings.Repeat("b", 100)), true))
	p.tells()
	p.writes()
}

// P15.2: numbers that a request can't have.
func TestRequestNumbers(t *testing.T) {
	for _, c := range []struct {
		id, code int
	}{{2, api.CProtocol}, {4, api.CProtocol}, {api.MaxID - 1, api.CProtocol}, {3, api.CClosed}, {1, api.CClosed}} {
		p := server(t)
		p.asks(5, request("GET"), true)
		p.send(p.head(c.id, request("GET"), true))
		p.fails(c.code, 5)
	}
	p := server(t)
	p.asks(api.MaxID, request("GET"), false)
	p.streamsAre(api.MaxID)
	p = client(t)
	for _, id := range []int{1, 2, 3, api.MaxID} {
		p := client(t)
		p.send(p.head(id, response("200"), true))
		p.fails(api.CProtocol, 0)
	}
	p.opens(request("GET"), false)
	p.send(p.head(3, response("200"), true))
	p.fails(api.CProtocol, 0)
}

// P15.2: more requests than may be open are refused; what comes of them is let go, and used at once.
func TestRefused(t *testing.T) {
	p := server(t)
	for id := 1; id < 9; id += 2 {
		p.asks(id, request("POST"), false)
	}
	p.send(p.head(9, request("POST", "x", "y"), false))
	p.tells()
	p.writes("RST 9 code 7")
	p.streamsAre(1, 3, 5, 7)
	p.stateIs(9, api.SClosed)
	p.send(p.head(11, list("not", "a request"), true))
	p.tells()
	p.writes("RST 11 code 7")
	p.send(data(9, strings.Repeat("x", 16000), false), data(9, strings.Repeat("x", 16384), true), p.head(9, list("x", "y"), true), grow(9, 5), reset(9, 0))
	p.tells()
	p.writes()
	p.send(padded(9, strings.Repeat("x", 382), 1, true))
	p.tells()
	p.writes("WINDOW inc 32768")
	p.send(reset(1, 0))
	p.tells("reset 1")
	p.asks(13, request("GET", "x", "y"), true)
	p.send(p.head(15, request("GET", "x", "y"), true))
	p.writes("RST 15 code 7")

	s := setup(true)
	s.Streams = 0
	p = met(t, s)
	p.send(p.head(1, request("GET"), true))
	p.tells()
	p.writes("RST 1 code 7")
	p.send(p.head(1, request("GET"), true))
	p.tells()
	p.writes()
}

// P15.2: behind Goaway requests are refused, and those that were open go on.
func TestRequestsBehindGoaway(t *testing.T) {
	p := server(t)
	p.asks(1, request("POST"), false)
	p.goawayIs(0, api.OK)
	p.writes("GOAWAY last 1")
	p.send(p.head(3, request("POST", "x", "y"), false))
	p.tells()
	p.writes("RST 3 code 7")
	p.stateIs(3, api.SClosed)
	p.streamsAre(1)
	p.send(data(3, "late", true), p.head(3, list("x", "y"), true), reset(3, 0), grow(3, 1))
	p.tells()
	p.writes()
	for id := 5; id < 50; id += 2 { // none of them counts as open
		p.send(p.head(id, request("GET"), true))
		p.tells()
		p.writes("RST " + strconv.Itoa(id) + " code 7")
	}
	p.send(p.head(4, request("GET"), true))
	p.fails(api.CProtocol, 49)

	p = server(t)
	p.asks(1, request("POST"), false)
	p.goawayIs(7, api.OK)
	p.send(data(1, "abc", false), p.head(1, list("x", "y"), true))
	p.tells("data 1 'abc'", "trailers 1 x=y end")
	p.headersAre(1, response("200"), true, api.OK)
	p.writes("GOAWAY last 1 code 7", "HEADERS 1 :status=200 end")
	p.send(ping("12345678"))
	p.writes("PING '12345678' end")
}

// P15.2: requests that are none, and ends that belie a length.
func TestBadRequests(t *testing.T) {
	for _, c := range []struct {
		l   []api.Header
		end bool
	}{
		{nil, false}, {nil, true}, {response("200"), false}, {list("x", "y"), true},
		{request("GET", "Host", "a"), true}, {request("GET", "connection", "close"), false}, {request("GET", "content-length", "x"), false},
		{request("GET")[:2], true}, {request("GET", "content-length", "1"), true}, {request("HEAD", "content-length", "1"), true},
	} {
		p := server(t)
		p.send(p.head(1, c.l, c.end))
		p.tells("bad 1 code 1")
		p.writes("RST 1 code 1")
		p.stateIs(1, api.SClosed)
		p.streamsAre()
		p.usedIs(1, 0, api.ErrNone)
		p.send(data(1, "x", false), p.head(1, nil, false))
		p.tells()
		p.asks(3, request("GET", "content-length", "0"), true)
		p.asks(5, request("GET", "content-length", "1"), false)
	}
}

// P15.2: the states of a server's streams.
func TestRequestStates(t *testing.T) {
	p := server(t)
	p.asks(1, request("GET"), true)
	p.asks(3, request("GET"), false)
	p.stateIs(1, api.SRemote)
	p.stateIs(3, api.SOpen)
	p.streamsAre(1, 3)
	p.send(p.head(1, list("x", "y"), true))
	p.tells("bad 1 code 5")
	p.writes("RST 1 code 5")
	p.send(p.head(3, list("x", "y"), true))
	p.tells("trailers 3 x=y end")
	p.stateIs(3, api.SRemote)
	p.headersAre(3, response("200"), true, api.OK)
	p.stateIs(3, api.SClosed)
	p.send(p.head(3, list("x", "y"), true))
	p.fails(api.CClosed, 3)
}

// P15.2: trailers that are none: they do not end, or err, or belie the length.
func TestTrailers(t *testing.T) {
	for _, c := range []struct {
		length string
		data   string
		l      []api.Header
		end    bool
		want   string
	}{
		{"", "abc", list("x", "y"), true, "trailers 1 x=y end"},
		{"", "", nil, true, "trailers 1 end"},
		{"3", "abc", list("x", "y"), true, "trailers 1 x=y end"},
		{"0", "", list("x", "y"), true, "trailers 1 x=y end"},
		{"3", "abc", list("content-length", "9"), true, "trailers 1 content-length=9 end"},
		{"4", "abc", list("x", "y"), true, "bad 1 code 1"},
		{"4", "", list("x", "y"), true, "bad 1 code 1"},
		{"", "abc", list("x", "y"), false, "bad 1 code 1"},
		{"", "abc", list("X", "y"), true, "bad 1 code 1"},
		{"", "abc", list(":status", "200"), true, "bad 1 code 1"},
	} {
		for _, end := range []bool{true, false} {
			p := met(t, setup(end))
			var told []string
			if c.length != "" {
				told = []string{"content-length", c.length}
			}
			if end {
				p.asks(1, request("POST", told...), false)
			} else {
				p.opens(request("POST"), false)
				p.answers(1, response("200", told...), false)
			}
			if c.data != "" {
				p.send(data(1, c.data, false))
				p.tells("data 1 '" + c.data + "'")
			}
			p.send(p.head(1, c.l, c.end))
			p.tells(c.want)
			if strings.HasPrefix(c.want, "bad") {
				p.writes("RST 1 code 1")
				p.stateIs(1, api.SClosed)
			} else {
				p.writes()
				p.stateIs(1, api.SRemote)
			}
		}
	}
}

// P15.2: responses: any number below 200, then one, then trailers.
func TestResponses(t *testing.T) {
	p := client(t)
	p.opens(request("POST"), false)
	p.answers(1, response("100"), false)
	p.answers(1, response("103", "content-length", "7"), false)
	p.answers(1, response("199"), false)
	p.answers(1, response("200", "content-length", "3"), false)
	p.send(data(1, "ab", false), data(1, "c", false))
	p.tells("data 1 'ab'", "data 1 'c'")
	p.send(p.head(1, list("x", "y"), true))
	p.tells("trailers 1 x=y end")
	p.stateIs(1, api.SRemote)
	p.send(p.head(1, list("x", "y"), true))
	p.tells("bad 1 code 5")
	p.writes("RST 1 code 5")

	p.opens(request("GET"), true)
	p.answers(3, response("404"), true)
	p.stateIs(3, api.SClosed)
	p.streamsAre()
	p.opens(request("GET"), true)
	p.answers(5, response("599", "content-length", "0"), false)
	p.stateIs(5, api.SLocal)
	p.send(p.head(5, response("200"), true))
	p.tells("bad 5 code 1")
	p.writes("RST 5 code 1")
	p.send(p.head(3, nil, true))
	p.fails(api.CClosed, 0)
}

// P15.2: responses that are none, and ends that belie a length.
func TestBadResponses(t *testing.T) {
	for _, c := range []struct {
		method string
		l      []api.Header
		end    bool
		good   bool
	}{
		{"GET", nil, false, false}, {"GET", request("GET"), false, false}, {"GET", response("99"), false, false}, {"GET", response("600"), false, false},
		{"GET", response("200", "X", "y"), true, false}, {"GET", response("200", "content-length", "x"), false, false},
		{"GET", response("100"), true, false}, {"HEAD", response("199"), true, false},
		{"GET", response("200", "content-length", "1"), true, false}, {"GET", response("200", "content-length", "1"), false, true},
		{"GET", response("200", "content-length", "0"), true, true}, {"GET", response("204"), true, true},
		{"HEAD", response("200", "content-length", "1"), true, true}, {"GET", response("304", "content-length", "1"), true, true},
		{"GET", response("303", "content-length", "1"), true, false}, {"GET", response("305", "content-length", "1"), true, false},
		{"head", response("200", "content-length", "1"), true, false}, {"HEAD", response("200", "content-length", "-1"), true, false},
	} {
		for _, ended := range []bool{true, false} {
			p := client(t)
			p.opens(request(c.method), ended)
			if c.good {
				p.answers(1, c.l, c.end)
				continue
			}
			p.send(p.head(1, c.l, c.end))
			p.tells("bad 1 code 1")
			p.writes("RST 1 code 1")
			p.stateIs(1, api.SClosed)
			p.streamsAre()
			p.usedIs(1, 0, api.ErrNone)
			p.roomIs(1, 0)
		}
	}
}

// P15.2: trailers on a stream that this end has ended close it; bad ones too, with a reset still.
func TestTrailersClose(t *testing.T) {
	p := client(t)
	for id := 1; id < 6; id += 2 {
		p.opens(request("GET"), true)
		p.answers(id, response("200"), false)
	}
	p.send(p.head(1, list("x", "y"), true))
	p.tells("trailers 1 x=y end")
	p.writes()
	p.stateIs(1, api.SClosed)
	p.usedIs(1, 0, api.ErrNone)
	p.send(data(3, "abc", false), p.head(3, list("X", "y"), true))
	p.tells("data 3 'abc'", "bad 3 code 1")
	p.writes("RST 3 code 1")
	p.usedIs(3, 0, api.ErrNone)
	p.stateIs(3, api.SClosed)
	p.send(data(5, "abc", false), p.head(5, list("x", "y"), true))
	p.tells("data 5 'abc'", "trailers 5 x=y end")
	p.stateIs(5, api.SClosed)
	p.usedIs(5, 4, api.ErrArg)
	p.usedIs(5, 3, api.OK)
	p.usedIs(5, 0, api.ErrNone)
}

// P15.2: data by the states of streams.
func TestDataStates(t *testing.T) {
	p := server(t)
	p.asks(1, request("POST"), false)
	p.send(data(1, "", false), data(1, "abc", false), data(1, "", false), padded(1, "", 3, false), data(1, "d", true))
	p.tells("data 1 'abc'", "data 1 'd' end")
	p.stateIs(1, api.SRemote)
	p.send(data(1, "", false))
	p.tells("bad 1 code 5")
	p.writes("RST 1 code 5")
	p.asks(3, request("POST"), false)
	p.send(data(3, "", true))
	p.tells("data 3 end")
	p.send(data(3, "late", true))
	p.tells("bad 3 code 5")
	p.writes("RST 3 code 5")
	p.send(data(1, "x", true), data(3, "", false))
	p.tells()
	p.writes()
	p = client(t)
	p.opens(request("GET"), true)
	p.answers(1, response("200"), false)
	p.send(data(1, "", true))
	p.tells("data 1 end")
	p.usedIs(1, 0, api.ErrNone)
	p.send(reset(1, 0))
	p.tells()

	for _, c := range []struct {
		id, code int
		end      bool
	}{{2, api.CProtocol, false}, {3, api.CProtocol, false}, {3, api.CProtocol, true}, {2, api.CProtocol, true}, {1, api.CClosed, false}, {1, api.CClosed, true}} {
		p := server(t)
		p.asks(1, request("POST"), false)
		p.send(reset(1, 0))
		p.send(data(c.id, "x", c.end))
		p.fails(c.code, 1)
	}
}

// P15.2: data of a response ahead of its headers.
func TestDataAheadOfResponse(t *testing.T) {
	p := client(t)
	p.opens(request("POST"), false)
	p.opens(request("POST"), false)
	p.send(data(1, "abc", false))
	p.tells("bad 1 code 1")
	p.writes("RST 1 code 1")
	p.answers(3, response("100"), false)
	p.send(data(3, "", true))
	p.tells("bad 3 code 1")
	p.writes("RST 3 code 1")
}

// P15.2: data and the length that was told.
func TestLengths(t *testing.T) {
	for _, c := range []struct {
		length string
		data   []string // the last one ends
		bad    int      // so many of them are told ahead of the bad one; -1: none is bad
	}{
		{"", []string{"abc", "def", ""}, -1},
		{"6", []string{"abc", "def"}, -1},
		{"6", []string{"abc", "def", ""}, -1},
		{"6", []string{"abc", "de"}, 1},
		{"6", []string{"abc", ""}, 1},
		{"6", []string{"abc", "defg", ""}, 1},
		{"2", []string{"abc", ""}, 0},
		{"0", []string{""}, -1},
		{"0", []string{"a", ""}, 0},
		{"1", []string{""}, 0},
	} {
		for _, end := range []bool{true, false} {
			p := met(t, setup(end))
			var told []string
			if c.length != "" {
				told = []string{"content-length", c.length}
			}
			if end {
				p.asks(1, request("HEAD", told...), false) // its own length is that of its data
			} else {
				p.opens(request("GET"), true)
				p.answers(1, response("200", told...), false)
			}
			for i, text := range c.data {
				last := i == len(c.data)-1
				p.send(data(1, text, last))
				if i == c.bad {
					p.tells("bad 1 code 1")
					p.writes("RST 1 code 1")
					break
				}
				want := "data 1"
				if text != "" {
					want += " '" + text + "'"
				}
				p.tells(want + strings.Repeat(" end", flag(last)))
				p.writes()
			}
		}
	}
	for _, c := range []struct{ method, status string }{{"HEAD", "200"}, {"GET", "304"}} {
		p := client(t)
		p.opens(request(c.method), true)
		p.answers(1, response(c.status, "content-length", "2"), false)
		p.send(data(1, "abc", true))
		p.tells("data 1 'abc' end")
		p.opens(request(c.method), true)
		p.answers(3, response(c.status, "content-length", "2"), false)
		p.send(p.head(3, list("x", "y"), true))
		p.tells("trailers 3 x=y end")
	}
}

// P15.2: a stream's taking window, with padding, to its end and one more.
func TestStreamWindow(t *testing.T) {
	p := server(t)
	for id := 1; id < 9; id += 2 {
		p.asks(id, request("POST"), false)
	}
	p.send(data(1, strings.Repeat("x", 100), false))
	p.tells("data 1 100 bytes")
	p.send(data(1, "", true))
	p.tells("data 1 end")
	p.send(data(3, strings.Repeat("x", 101), false))
	p.tells("bad 3 code 3")
	p.writes("RST 3 code 3")
	p.send(padded(5, strings.Repeat("x", 89), 10, false))
	p.tells("data 5 89 bytes")
	p.writes()
	p.send(padded(5, "", 0, false))
	p.tells("bad 5 code 3")
	p.writes("RST 5 code 3")
	p.send(padded(7, strings.Repeat("x", 90), 10, false))
	p.tells("bad 7 code 3")
	p.writes("RST 7 code 3")
}

// P15.2: a stream's fault goes ahead of its window, its window ahead of its length.
func TestDataFaultsInOrder(t *testing.T) {
	p := server(t)
	p.asks(1, request("POST"), true)
	p.asks(3, request("POST", "content-length", "3"), false)
	p.send(data(1, strings.Repeat("x", 101), false), data(3, strings.Repeat("x", 101), false))
	p.tells("bad 1 code 5", "bad 3 code 3")
	p = client(t)
	p.opens(request("POST"), false)
	p.send(data(1, strings.Repeat("x", 101), false))
	p.tells("bad 1 code 3")
}

// wide is a setup with windows that hold no one up.
func wide(server bool) api.Setup {
	s := setup(server)
	s.Window = api.MaxWindow
	s.Queue = api.MaxRing
	return s
}

// P15.2: the connection's window, of all streams together, to its end and one more; it goes ahead of all faults of streams.
func TestConnectionWindow(t *testing.T) {
	full := strings.Repeat("x", 16384)
	for _, c := range []struct {
		f    api.Frame
		code int
	}{{data(1, "", false), 0}, {data(1, "x", false), api.CFlow}, {data(3, "", true), 0}, {data(3, "x", true), api.CFlow}, {data(7, "x", true), api.CFlow}, {data(5, "x", true), api.CFlow}, {data(9, "x", false), api.CFlow}, {data(9, "", false), api.CProtocol}, {padded(1, "", 0, false), api.CFlow}} {
		p := met(t, wide(true))
		for id := 1; id < 9; id += 2 {
			p.asks(id, request("POST"), id == 5)
		}
		p.resetIs(7, 0, api.OK)
		p.send(data(1, full, false), data(3, full, false), data(1, full, false), data(3, full[1:], false))
		p.tells("data 1 16384 bytes", "data 3 16384 bytes", "data 1 16384 bytes", "data 3 16383 bytes")
		p.writes("RST 7")
		p.send(c.f)
		switch {
		case c.code != 0:
			p.fails(c.code, 7)
		case c.f.Flags == api.FlagEnd:
			p.tells("data 3 end")
		default:
			p.tells()
		}
	}
}

// P15.2: as long as the own settings are not acknowledged the taking window is Window; then it changes, of all streams, and may be below 0.
func TestAcknowledgement(t *testing.T) {
	full := strings.Repeat("x", 16384)
	start := func(window int) *peer {
		s := wide(true)
		s.Window = window
		p := raw(t, s)
		p.feed([]byte(preface))
		p.send(settings())
		p.c.Out(most)
		p.asks(1, request("POST"), false)
		p.asks(3, request("POST"), false)
		return p
	}
	p := start(100)
	p.send(data(1, full, false), data(1, full, false), data(1, full, false), data(1, full[1:], false))
	p.tells("data 1 16384 bytes", "data 1 16384 bytes", "data 1 16384 bytes", "data 1 16383 bytes")
	p.usedIs(1, 65535, api.OK)
	p.writes("WINDOW 1 inc 65535", "WINDOW inc 65535")
	p.send(acknowledged(), data(1, full[:100], false), data(3, full[:100], false))
	p.tells("data 1 100 bytes", "data 3 100 bytes")
	p.send(data(1, "x", false), data(3, "x", false))
	p.tells("bad 1 code 3", "bad 3 code 3")
	p.frames()
	p.asks(5, request("POST"), false)
	p.send(data(5, full[:101], false))
	p.tells("bad 5 code 3")

	p = start(100)
	p.send(data(1, full, false), acknowledged())
	p.usedIs(1, 16284, api.OK)
	p.writes("WINDOW 1 inc 16284")
	p.send(data(1, "x", false))
	p.tells("bad 1 code 3")
	p.frames()
	p.asks(5, request("POST"), false)
	p.send(data(3, full[:50], false), data(5, full[:50], false), data(3, full[:50], false), data(5, full[:51], false))
	p.tells("data 3 50 bytes", "data 5 50 bytes", "data 3 50 bytes", "bad 5 code 3")

	p = start(100)
	p.send(data(1, full[:101], false), acknowledged(), data(1, "", true))
	p.tells("data 1 101 bytes", "bad 1 code 3") // -1 is less than a weight of 0

	p = start(70000)
	p.send(data(1, full, false), data(1, full, false), data(1, full, false), data(1, full[1:], false))
	p.usedIs(1, 34000, api.OK)
	p.writes("WINDOW inc 34000") // not half of 70000
	p.send(data(1, "x", false))
	p.tells("bad 1 code 3")
	p = start(70000)
	p.send(data(1, full, false), data(1, full, false), data(1, full, false), data(1, full[1:], false))
	p.usedIs(1, 34000, api.OK)
	p.send(acknowledged(), data(1, full[:4465], false))
	p.tells("data 1 4465 bytes")
	p.send(data(1, "x", false))
	p.tells("bad 1 code 3")
}

// P15.2: RST_STREAM by the states of streams.
func TestReset(t *testing.T) {
	p := server(t)
	for id := 1; id < 6; id += 2 {
		p.asks(id, request("POST"), id == 3)
	}
	p.send(reset(1, 8))
	p.tells("reset 1 code 8")
	p.send(reset(3, 1<<32-1))
	p.tells("reset 3 code 4294967295")
	p.writes()
	p.streamsAre(5)
	p.stateIs(1, api.SClosed)
	p.send(reset(1, 8), reset(3, 0))
	p.tells()
	p.resetIs(5, 2, api.OK)
	p.writes("RST 5 code 2")
	p.send(reset(5, 1))
	p.tells()
	p.send(reset(7, 1))
	p.fails(api.CProtocol, 5)
	p = server(t)
	p.send(reset(2, 0))
	p.fails(api.CProtocol, 0)
	p = client(t)
	p.opens(request("GET"), true)
	p.send(reset(1, 0))
	p.tells("reset 1")
	p.stateIs(1, api.SClosed)
}

// P15.2, P15.3: a stream that both ends have ended is known as long as it has data held, and may be reset still.
func TestResetOfHeld(t *testing.T) {
	p := client(t)
	for id := 1; id < 8; id += 2 {
		p.opens(request("GET"), true)
		p.answers(id, response("200"), false)
		p.send(data(id, "abc", true))
		p.tells("data " + strconv.Itoa(id) + " 'abc' end")
		p.stateIs(id, api.SClosed)
	}
	p.streamsAre()
	p.send(reset(1, 5))
	p.tells("reset 1 code 5")
	p.usedIs(1, 0, api.ErrNone)
	p.usedIs(3, 2, api.OK)
	p.usedIs(3, 1, api.OK)
	p.usedIs(3, 0, api.ErrNone)
	p.send(reset(3, 5))
	p.tells()
	p.send(grow(5, api.MaxWindow))
	p.tells("bad 5 code 3")
	p.writes("RST 5 code 3")
	p.usedIs(5, 0, api.ErrNone)
	p.resetIs(7, 0, api.ErrNone)
	p.headersAre(7, list("x", "y"), true, api.ErrNone)
	p.dataAre(7, "x", true, 0, api.ErrNone)
	p.send(goaway(5, 0))
	p.tells("goaway last 5", "reset 7 code 7")
	p.usedIs(7, 0, api.ErrNone)
}

// P15.2: settings that may not be.
func TestBadSettings(t *testing.T) {
	for _, c := range []struct {
		id    int
		value uint32
		code  int
	}{{2, 2, api.CProtocol}, {4, 1 << 31, api.CFlow}, {5, 16383, api.CProtocol}, {8, 2, api.CProtocol}} {
		p := client(t)
		p.send(settings(api.Setting{ID: 1, Value: 7}, api.Setting{ID: c.id, Value: c.value}))
		p.fails(c.code, 0)
	}
	p := client(t)
	p.send(settings(api.Setting{ID: 8, Value: 1}))
	p.tells()
	p.send(settings(api.Setting{ID: 8, Value: 0}))
	p.fails(api.CProtocol, 0)
}

// P15.2: a change of the window shifts all sending windows, of those that are open too, but the connection's; it may bring them below 0.
func TestSettingsShift(t *testing.T) {
	window := func(n uint32) api.Frame { return settings(api.Setting{ID: api.SetWindow, Value: n}) }
	p := met(t, setup(false), api.Setting{ID: api.SetWindow, Value: 10})
	p.opens(request("POST"), false)
	p.dataAre(1, strings.Repeat("x", 60), false, 60, api.OK)
	p.writes("DATA 1 'xxxxxxxxxx'")
	p.send(window(15))
	p.writes("SETTINGS end", "DATA 1 'xxxxx'")
	p.send(window(5))
	p.writes("SETTINGS end")
	p.send(grow(1, 10))
	p.writes()
	p.send(grow(1, 1))
	p.writes("DATA 1 'x'")
	p.opens(request("POST"), false)
	p.dataAre(3, strings.Repeat("y", 60), false, 60, api.OK)
	p.writes("DATA 3 'yyyyy'")
	p.send(window(7))
	p.writes("SETTINGS end", "DATA 1 'xx'", "DATA 3 'yy'")
	p.send(window(1 << 30))
	if got := p.frames(); len(got) != 3 {
		t.Errorf("written %q", got)
	}
	p.send(grow(1, 1<<30-1)) // 60 were spent, 11 given back
	p.tells()
	p.send(grow(1, 49))
	p.tells()
	p.send(grow(1, 1))
	p.tells("bad 1 code 3")

	p = client(t)
	p.opens(request("POST"), false)
	p.send(grow(1, api.MaxWindow-api.Window))
	p.tells()
	p.send(window(api.Window))
	p.tells()
	p.writes("SETTINGS end")
	p.send(window(api.Window + 1))
	p.fails(api.CFlow, 0)
	p = client(t)
	p.send(window(api.MaxWindow))
	p.tells()
	p.writes("SETTINGS end")
}

// P15.2: the encoder's table follows the peer's setting, up to 4096.
func TestSettingsTable(t *testing.T) {
	table := func(n uint32) api.Frame { return settings(api.Setting{ID: api.SetTable, Value: n}) }
	first := func(p *peer, l []api.Header) byte {
		t.Helper()
		p.c.Out(most)
		if _, e := p.c.Open(l, true); e != api.OK {
			t.Fatalf("Open: %d", e)
		}
		return p.c.Out(most)[9]
	}
	p := client(t)
	for _, c := range []struct {
		set  []uint32
		want byte // the block's first byte
	}{
		{nil, 0x82}, {[]uint32{4096}, 0x82}, {[]uint32{1 << 16}, 0x82}, {[]uint32{1<<32 - 1}, 0x82},
		{[]uint32{10}, 0x2a}, {[]uint32{10}, 0x82}, {[]uint32{0}, 0x20}, {[]uint32{3}, 0x23}, {[]uint32{9, 5}, 0x25}, {[]uint32{2, 5}, 0x22}, {[]uint32{1 << 20}, 0x3f},
	} {
		for _, n := range c.set {
			p.send(table(n))
		}
		if got := first(p, request("GET")); got != c.want {
			t.Errorf("behind %v the block begins with %x, want %x", c.set, got, c.want)
		}
	}
	p.opens(request("GET", "a", "b"), true)
	p.heldIs(34)
	p.send(table(33))
	p.frames()
	p.heldIs(0)
}

// P15.2: PING is answered; its answer is not. PRIORITY does nothing; pushes fail.
func TestOthers(t *testing.T) {
	for _, end := range []bool{true, false} {
		p := met(t, setup(end))
		p.send(ping("12345678"), ping("\x00\x01\x02\x03\x04\x05\x06\x07"))
		p.tells()
		p.writes("PING '12345678' end", "PING '\x00\x01\x02\x03\x04\x05\x06\x07' end")
		p.feed(made(api.FPing, 0xfe, 0, "abcdefgh"))
		p.writes("PING 'abcdefgh' end")
		p.feed(append(made(api.FPing, 1, 0, "12345678"), made(api.FPing, 0xff, 0, "12345678")...))
		p.tells()
		p.writes()
		for _, id := range []int{1, 2, 3, api.MaxID} {
			p.send(api.Frame{Type: api.FPriority, Stream: id, Dep: id, Weight: 1})
			p.stateIs(id, api.SIdle)
		}
		p.tells()
		p.writes()
		for _, id := range []int{1, 2, 3} {
			p := met(t, setup(end))
			if !end {
				p.opens(request("GET"), false)
			}
			p.send(api.Frame{Type: api.FPush, Flags: api.FlagDone, Stream: id, Last: 2})
			p.fails(api.CProtocol, 0)
		}
	}
}

// P15.2: GOAWAY ends the streams of a client's end that the peer has not looked at, rising.
func TestGoawayComes(t *testing.T) {
	p := client(t)
	for range 5 {
		p.opens(request("POST"), false)
	}
	p.dataAre(7, "gone", true, 4, api.OK)
	p.send(goaway(5, 9))
	p.tells("goaway last 5 code 9", "reset 7 code 7", "reset 9 code 7")
	p.writes()
	p.streamsAre(1, 3, 5)
	p.waitingIs(0)
	p.stateIs(7, api.SClosed)
	p.stateIs(11, api.SIdle)
	p.slotsAre(0)
	p.openIs(request("GET"), true, 0, api.ErrState)
	p.send(goaway(5, 0))
	p.tells("goaway last 5")
	p.answers(5, response("200"), false)
	p.send(goaway(1, 1<<32-1))
	p.tells("goaway last 1 code 4294967295", "reset 3 code 7", "reset 5 code 7")
	p.dataAre(1, "goes on", true, 7, api.OK)
	p.writes("DATA 1 'goes on' end")
	p.send(p.head(7, response("200"), true))
	p.fails(api.CClosed, 0)

	p = client(t)
	p.opens(request("POST"), false)
	p.send(goaway(api.MaxID, 0))
	p.tells("goaway last 2147483647")
	p.streamsAre(1)
	p.send(goaway(0, 0))
	p.tells("goaway", "reset 1 code 7")

	p = server(t)
	p.asks(1, request("POST"), false)
	p.send(goaway(0, 3))
	p.tells("goaway code 3")
	p.streamsAre(1)
	p.asks(3, request("GET"), true)
	p.headersAre(1, response("200"), true, api.OK)
	p.writes("HEADERS 1 :status=200 end")
}

// P15.2: WINDOW_UPDATE, of the connection and of streams in their states, to MaxWindow and one more.
func TestWindowUpdates(t *testing.T) {
	p := server(t)
	p.send(grow(0, api.MaxWindow-api.Window))
	p.tells()
	p.send(grow(0, 1))
	p.fails(api.CFlow, 0)
	p = server(t)
	for id := 1; id < 8; id += 2 {
		p.asks(id, request("POST"), id == 3)
	}
	p.send(grow(1, api.MaxWindow-api.Window), grow(3, api.MaxWindow-api.Window))
	p.tells()
	p.send(grow(1, 1), grow(3, 1))
	p.tells("bad 1 code 3", "bad 3 code 3")
	p.writes("RST 1 code 3", "RST 3 code 3")
	p.send(grow(1, api.MaxWindow), grow(3, api.MaxWindow))
	p.tells()
	p.send(reset(5, 0), grow(5, api.MaxWindow), grow(5, api.MaxWindow))
	p.tells("reset 5")
	p.streamsAre(7)
	for _, id := range []int{2, 9, api.MaxID} {
		p := server(t)
		p.asks(1, request("POST"), false)
		p.send(grow(id, 1))
		p.fails(api.CProtocol, 1)
	}
}

// P15.2: behind a frame at most MaxBlock bytes that are written may wait.
func TestCalm(t *testing.T) {
	fill := func(p *peer) int {
		n := 0
		for p.c.Waiting()+17 <= api.MaxBlock {
			p.send(ping("12345678"))
			n += 17
		}
		return n
	}
	p := server(t)
	n := fill(p)
	if p.c.Failed() != -1 || p.c.Waiting() != n {
		t.Fatalf("Failed() = %d, %d wait", p.c.Failed(), n)
	}
	p.send(ping("12345678"))
	p.tells("fault code 11")
	p.waitingIs(n + 34)
	p.c.Out(n)
	p.writes("PING '12345678' end", "GOAWAY code 11")
	p.isOver(api.CCalm)

	p = server(t) // to the byte
	n = fill(p)
	p.c.Out(n + 17 - api.MaxBlock)
	p.send(ping("12345678"))
	p.tells()
	p.waitingIs(api.MaxBlock)
	p.feed(made(99, 0, 0, ""))
	p.send(api.Frame{Type: api.FPriority, Stream: 1, Weight: 1})
	p.tells()
	p.send(settings())
	p.tells("fault code 11")

	p = server(t)
	n = fill(p)
	p.c.Out(n + 16 - api.MaxBlock)
	p.send(ping("12345678"))
	p.tells("fault code 11")
}

// P15.2: what waits because of calls counts too; a frame of any kind is enough, but none that the reader passes over.
func TestCalmBehindCalls(t *testing.T) {
	start := func() *peer {
		s := setup(true)
		s.List = api.MaxBlock
		p := met(t, s)
		p.asks(1, request("POST"), false)
		for range 6 {
			p.headersAre(1, response("100", "x!", strings.Repeat("~", 8000), "y!", strings.Repeat("~", 8000)), false, api.OK)
		}
		if p.c.Waiting() <= api.MaxBlock {
			t.Fatalf("%d wait", p.c.Waiting())
		}
		p.feed(made(99, 0, 0, "passed over"))
		p.tells()
		p.feed(nil)
		p.tells()
		return p
	}
	for _, f := range []api.Frame{{Type: api.FPriority, Stream: 1, Weight: 1}, grow(0, 1), {Type: api.FHeaders, Stream: 3}} {
		p := start()
		p.send(f)
		p.fails(api.CCalm, 1)
	}
	p := start()
	p.feed(made(api.FPriority, 0, 1, "1234"))
	p.fails(api.CCalm, 1, "bad 1 code 6")
	p = start()
	p.send(reset(1, 0), ping("12345678"))
	p.fails(api.CCalm, 1, "reset 1")
	p = start()
	p.send(data(5, "", false))
	p.fails(api.CProtocol, 1)
	p = start()
	p.c.Out(p.c.Waiting() - api.MaxBlock)
	p.send(reset(1, 0))
	p.tells("reset 1")
}

// P15.2: a failure forgets all streams, what waits of them, and what has come and was not looked at; what is written stays.
func TestFailure(t *testing.T) {
	p := met(t, wide(true))
	p.asks(1, request("POST"), false)
	p.asks(3, request("POST"), true)
	p.headersAre(3, response("200"), false, api.OK)
	p.dataAre(3, "gone", true, 4, api.OK)
	full := strings.Repeat("x", 16384)
	p.send(data(1, full, false), data(1, full, false), data(1, full, false))
	p.send(ping("12345678"), grow(0, api.MaxWindow), ping("87654321"))
	p.tells("fault code 3")
	p.waitingIs(len(p.bytesOf(ping("12345678"), api.Frame{Type: api.FGoaway})) + 10)
	p.writes("HEADERS 3 :status=200", "PING '12345678' end", "GOAWAY last 3 code 3")
	p.isOver(api.CFlow)
	p.heldIs(0)
}

// P15.2: one event behind the other, of bytes that came together.
func TestEventsInOrder(t *testing.T) {
	p := server(t)
	p.send(p.head(1, request("POST"), false), data(1, "abc", false), p.head(3, request("GET", "a", "b"), true), settings(), p.head(1, list("x", "y"), true), goaway(0, 0), p.head(5, nil, true), reset(3, 8), data(7, "", true), ping("12345678"))
	p.tells("headers 1 :method=POST", "data 1 'abc'", "headers 3 :method=GET a=b end", "trailers 1 x=y end", "goaway", "bad 5 code 1", "reset 3 code 8", "fault code 1")
	p.writes("SETTINGS end", "RST 5 code 1", "GOAWAY last 5 code 1")
}

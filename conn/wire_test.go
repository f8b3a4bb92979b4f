package conn_test

import (
	"slices"
	"strconv"
	"strings"
	"testing"

	"aqueduct/api"
	"aqueduct/block"
	"aqueduct/conn"
	"aqueduct/frame"
	"aqueduct/hpack"
)

const preface = "PRI * HTTP/2.0\r\n\r\nSM\r\n\r\n"

// most is more than is ever written in these tests.
const most = 1 << 30

// list is one of names and values, in turn. A name that ends with "!" is a secret header's.
func list(texts ...string) []api.Header {
	var l []api.Header
	for i := 0; i+1 < len(texts); i += 2 {
		name, secret := strings.CutSuffix(texts[i], "!")
		l = append(l, api.Header{Name: name, Value: texts[i+1], Secret: secret})
	}
	return l
}

// with is l with further headers behind it, in new memory.
func with(l []api.Header, texts ...string) []api.Header {
	return append(slices.Clone(l), list(texts...)...)
}

func request(method string, texts ...string) []api.Header {
	return with(list(":method", method, ":scheme", "https", ":path", "/"), texts...)
}

func response(status string, texts ...string) []api.Header {
	return with(list(":status", status), texts...)
}

// headers is a list as it is told: those of requests but :method are left out.
func headers(l []api.Header) string {
	text := ""
	for _, h := range l {
		if h.Name == ":scheme" || h.Name == ":path" {
			continue
		}
		text += " " + h.Name + "=" + h.Value
		if h.Secret {
			text += "!"
		}
	}
	return text
}

// short is a text as it is told: of a long one how long it is.
func short(b []byte) string {
	if len(b) > 20 {
		return strconv.Itoa(len(b)) + " bytes"
	}
	return "'" + string(b) + "'"
}

// fields is what a thing tells beside its name: all that is not zero.
type fields struct{ text string }

func (f *fields) number(name string, n int) {
	if n != 0 {
		f.text += name + strconv.Itoa(n)
	}
}

func (f *fields) bytes(b []byte) {
	if len(b) > 0 {
		f.text += " " + short(b)
	}
}

func (f *fields) flag(name string, is bool) {
	if is {
		f.text += name
	}
}

// told is an event as it is told, with every field that is not zero.
func told(e api.Event) string {
	names := []string{0: "none", api.EvHeaders: "headers", api.EvData: "data", api.EvTrailers: "trailers", api.EvReset: "reset", api.EvGoaway: "goaway", api.EvOpen: "open", api.EvFault: "fault", api.EvBad: "bad"}
	f := &fields{names[e.Kind]}
	f.number(" ", e.Stream)
	f.text += headers(e.List)
	f.bytes(e.Bytes)
	f.flag(" end", e.End)
	f.number(" last ", e.Last)
	f.number(" code ", e.Code)
	return f.text
}

// shown is a frame that was written, with every field that is not zero; of headers, put together, their list.
func (p *peer) shown(x api.Frame) string {
	names := []string{"DATA", "HEADERS", "PRIORITY", "RST", "SETTINGS", "PUSH", "PING", "GOAWAY", "WINDOW", "CONTINUATION"}
	f := &fields{names[x.Type]}
	f.number(" ", x.Stream)
	if x.Type == api.FHeaders {
		l, _, e := p.decoder.Decode(x.Payload)
		if e != api.OK {
			p.t.Fatalf("Decode: %d", e)
		}
		f.text += headers(l)
		x.Payload, x.Flags = nil, x.Flags&^api.FlagDone
	}
	f.bytes(x.Payload)
	f.number(" inc ", x.Inc)
	f.number(" last ", x.Last)
	f.number(" code ", int(x.Code))
	f.number(" pad ", x.Pad)
	f.number(" dep ", x.Dep+x.Weight)
	for _, s := range x.Sets {
		f.text += " " + strconv.Itoa(s.ID) + "=" + strconv.Itoa(int(s.Value))
	}
	f.flag(" end", x.Flags == api.FlagEnd)
	if x.Flags > 1 {
		f.number(" flags ", x.Flags)
	}
	return f.text
}

// peer is the other end of a connection, frame by frame.
type peer struct {
	t       *testing.T
	c       *conn.Conn
	encoder *hpack.Encoder // of what it sends
	decoder *hpack.Decoder // of what it reads
	joiner  *block.Joiner
	events  []api.Event // that its last bytes led to
	fresh   int         // the next stream that a random peer opens
}

// setup is that of an end with windows of 100, four streams, and room for 300 bytes.
func setup(server bool) api.Setup {
	return api.Setup{Server: server, Streams: 4, Window: 100, Frame: api.MinFrame, List: 4000, Table: 4096, Queue: 300}
}

func mustNew(t *testing.T, s api.Setup) *conn.Conn {
	t.Helper()
	c, e := conn.New(s)
	if c == nil || e != api.OK {
		t.Fatalf("New(%v) = %v, %d", s, c, e)
	}
	return c
}

// raw is the peer of an end that has said nothing and been told nothing yet.
func raw(t *testing.T, s api.Setup) *peer {
	t.Helper()
	p := &peer{t: t, c: mustNew(t, s)}
	p.encoder, _ = hpack.NewEncoder(4096)
	p.decoder, _ = hpack.NewDecoder(4096, api.MaxInt)
	p.joiner, _ = block.New(api.MaxBlock)
	return p
}

// met is the peer of an end that has been greeted, with those settings, and has been acknowledged.
func met(t *testing.T, s api.Setup, sets ...api.Setting) *peer {
	t.Helper()
	p := raw(t, s)
	if s.Server {
		p.feed([]byte(preface))
	}
	p.send(api.Frame{Type: api.FSettings, Sets: sets}, api.Frame{Type: api.FSettings, Flags: api.FlagAck})
	p.tells("open")
	if !s.Server {
		p.c.Out(len(preface))
	}
	if got := p.frames(); len(got) != 2 || got[1] != "SETTINGS end" {
		t.Fatalf("the greeting: %q", got)
	}
	return p
}

// server and client are the peers of such ends.
func server(t *testing.T) *peer { t.Helper(); return met(t, setup(true)) }
func client(t *testing.T) *peer { t.Helper(); return met(t, setup(false)) }

// feed hands bytes in.
func (p *peer) feed(b []byte) {
	p.t.Helper()
	l, e := p.c.In(b)
	if e != api.OK {
		p.t.Fatalf("In(%x) = %d", b[:min(len(b), 40)], e)
	}
	p.events = l
}

// bytesOf are those of frames.
func (p *peer) bytesOf(l ...api.Frame) []byte {
	p.t.Helper()
	var all []byte
	for _, f := range l {
		b, e := frame.Write(f)
		if e != api.OK {
			p.t.Fatalf("Write(%v) = %d", f, e)
		}
		all = append(all, b...)
	}
	return all
}

// send hands frames in.
func (p *peer) send(l ...api.Frame) {
	p.t.Helper()
	p.feed(p.bytesOf(l...))
}

// tells asks for the events that the last bytes led to.
func (p *peer) tells(want ...string) {
	p.t.Helper()
	var got []string
	for _, e := range p.events {
		got = append(got, told(e))
	}
	if !slices.Equal(got, want) {
		p.t.Errorf("told %q, want %q", got, want)
	}
}

// parsed are the frames of bytes that were written, as they are told.
func (p *peer) parsed(b []byte) []string {
	p.t.Helper()
	var got []string
	for len(b) > 0 {
		f, n, bad, e := frame.Parse(b, api.MaxFrame)
		if bad.Is || e != api.OK {
			p.t.Fatalf("written: %x: %v, %d", b[:min(len(b), 40)], bad, e)
		}
		b = b[n:]
		whole, there, bad := p.joiner.In(f)
		if bad.Is {
			p.t.Fatalf("written: %v: %v", f, bad)
		}
		if there {
			got = append(got, p.shown(whole))
		}
	}
	return got
}

// frames are all that is written now.
func (p *peer) frames() []string {
	p.t.Helper()
	return p.parsed(p.c.Out(most))
}

// writes asks for all that is written now.
func (p *peer) writes(want ...string) {
	p.t.Helper()
	if got := p.frames(); !slices.Equal(got, want) {
		p.t.Errorf("written %q, want %q", got, want)
	}
}

// head is a HEADERS frame with a list.
func (p *peer) head(stream int, l []api.Header, end bool) api.Frame {
	b, e := p.encoder.Encode(l)
	if e != api.OK {
		p.t.Fatalf("Encode: %d", e)
	}
	return api.Frame{Type: api.FHeaders, Flags: api.FlagDone | flag(end), Stream: stream, Payload: b}
}

func data(stream int, text string, end bool) api.Frame {
	return api.Frame{Type: api.FData, Flags: flag(end), Stream: stream, Payload: []byte(text)}
}

func padded(stream int, text string, pad int, end bool) api.Frame {
	return api.Frame{Type: api.FData, Flags: api.FlagPad | flag(end), Stream: stream, Payload: []byte(text), Pad: pad}
}

func reset(stream int, code uint32) api.Frame {
	return api.Frame{Type: api.FReset, Stream: stream, Code: code}
}

func grow(stream int, n int) api.Frame {
	return api.Frame{Type: api.FWindow, Stream: stream, Inc: n}
}

func ping(text string) api.Frame {
	return api.Frame{Type: api.FPing, Payload: []byte(text)}
}

func goaway(last int, code uint32) api.Frame {
	return api.Frame{Type: api.FGoaway, Last: last, Code: code, Payload: []byte("bye")}
}

func settings(l ...api.Setting) api.Frame {
	return api.Frame{Type: api.FSettings, Sets: l}
}

func acknowledged() api.Frame {
	return api.Frame{Type: api.FSettings, Flags: api.FlagAck}
}

func flag(end bool) int {
	if end {
		return api.FlagEnd
	}
	return 0
}

// made is a frame of whatever bytes.
func made(kind, flags, stream int, body string) []byte {
	n := len(body)
	b := []byte{byte(n >> 16), byte(n >> 8), byte(n), byte(kind), byte(flags), byte(stream >> 24), byte(stream >> 16), byte(stream >> 8), byte(stream)}
	return append(b, body...)
}

// opens lets a client's end open a stream, and takes what that writes.
func (p *peer) opens(l []api.Header, end bool) int {
	p.t.Helper()
	id, e := p.c.Open(l, end)
	if e != api.OK {
		p.t.Fatalf("Open = %d, %d", id, e)
	}
	p.writes("HEADERS " + strconv.Itoa(id) + headers(l) + strings.Repeat(" end", flag(end)))
	return id
}

// asks lets the peer of a server's end send a request.
func (p *peer) asks(stream int, l []api.Header, end bool) {
	p.t.Helper()
	p.send(p.head(stream, l, end))
	p.tells("headers " + strconv.Itoa(stream) + headers(l) + strings.Repeat(" end", flag(end)))
	p.writes()
}

// answers lets the peer of a client's end send a response.
func (p *peer) answers(stream int, l []api.Header, end bool) {
	p.t.Helper()
	p.asks(stream, l, end)
}

func (p *peer) headersAre(stream int, l []api.Header, end bool, want api.Errno) {
	p.t.Helper()
	if e := p.c.Headers(stream, l, end); e != want {
		p.t.Errorf("Headers(%d,%s, %v) = %d, want %d", stream, headers(l), end, e, want)
	}
}

func (p *peer) dataAre(stream int, text string, end bool, n int, want api.Errno) {
	p.t.Helper()
	if got, e := p.c.Data(stream, []byte(text), end); got != n || e != want {
		p.t.Errorf("Data(%d, %s, %v) = %d, %d, want %d, %d", stream, short([]byte(text)), end, got, e, n, want)
	}
}

func (p *peer) openIs(l []api.Header, end bool, id int, want api.Errno) {
	p.t.Helper()
	if got, e := p.c.Open(l, end); got != id || e != want {
		p.t.Errorf("Open(%s, %v) = %d, %d, want %d, %d", headers(l), end, got, e, id, want)
	}
}

func (p *peer) usedIs(stream int, n int, want api.Errno) {
	p.t.Helper()
	if e := p.c.Used(stream, n); e != want {
		p.t.Errorf("Used(%d, %d) = %d, want %d", stream, n, e, want)
	}
}

func (p *peer) resetIs(stream int, code int, want api.Errno) {
	p.t.Helper()
	if e := p.c.Reset(stream, code); e != want {
		p.t.Errorf("Reset(%d, %d) = %d, want %d", stream, code, e, want)
	}
}

func (p *peer) goawayIs(code int, want api.Errno) {
	p.t.Helper()
	if e := p.c.Goaway(code); e != want {
		p.t.Errorf("Goaway(%d) = %d, want %d", code, e, want)
	}
}

func (p *peer) stateIs(stream int, want int) {
	p.t.Helper()
	if got := p.c.State(stream); got != want {
		p.t.Errorf("State(%d) = %d, want %d", stream, got, want)
	}
}

func (p *peer) streamsAre(want ...int) {
	p.t.Helper()
	if got := p.c.Streams(); !slices.Equal(got, want) {
		p.t.Errorf("Streams() = %v, want %v", got, want)
	}
}

func (p *peer) slotsAre(want int) {
	p.t.Helper()
	if got := p.c.Slots(); got != want {
		p.t.Errorf("Slots() = %d, want %d", got, want)
	}
}

func (p *peer) roomIs(stream int, want int) {
	p.t.Helper()
	if got := p.c.Room(stream); got != want {
		p.t.Errorf("Room(%d) = %d, want %d", stream, got, want)
	}
}

func (p *peer) waitingIs(want int) {
	p.t.Helper()
	if got := p.c.Waiting(); got != want {
		p.t.Errorf("Waiting() = %d, want %d", got, want)
	}
}

func (p *peer) heldIs(want int) {
	p.t.Helper()
	if got := p.c.Held(); got != want {
		p.t.Errorf("Held() = %d, want %d", got, want)
	}
}

// fails asks that the last bytes made the connection fail, as its last event, behind those others.
func (p *peer) fails(code int, last int, ahead ...string) {
	p.t.Helper()
	p.tells(append(ahead, "fault code "+strconv.Itoa(code))...)
	got, want := p.frames(), "GOAWAY"
	if last > 0 {
		want += " last " + strconv.Itoa(last)
	}
	want += " code " + strconv.Itoa(code)
	if len(got) == 0 || got[len(got)-1] != want {
		p.t.Errorf("written %q, want %q at the end", got, want)
	}
	p.isOver(code)
}

// isOver asks for what a connection answers behind a failure.
func (p *peer) isOver(code int) {
	p.t.Helper()
	if got := p.c.Failed(); got != code || p.c.Ready() {
		p.t.Errorf("Failed() = %d, want %d; Ready() = %v", got, code, p.c.Ready())
	}
	if l, e := p.c.In([]byte("x")); len(l) != 0 || e != api.ErrState {
		p.t.Errorf("In behind a failure = %v, %d", l, e)
	}
	for _, id := range []int{-1, 0, 1, 2, 3, 5, api.MaxID, api.MaxID + 1} {
		p.stateIs(id, api.SClosed)
		p.roomIs(id, 0)
		p.usedIs(id, 0, api.ErrNone)
		p.resetIs(id, 0, api.ErrNone)
		p.resetIs(id, -1, api.ErrNone)
		p.headersAre(id, response("200"), false, api.ErrNone)
		p.dataAre(id, "x", false, 0, api.ErrNone)
	}
	p.openIs(request("GET"), true, 0, api.ErrState)
	p.goawayIs(0, api.ErrState)
	p.goawayIs(-1, api.ErrArg)
	p.streamsAre()
	p.slotsAre(0)
	p.waitingIs(0)
	if b := p.c.Out(most); len(b) != 0 {
		p.t.Errorf("Out behind all = %x", b)
	}
}

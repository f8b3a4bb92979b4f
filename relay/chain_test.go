package relay_test

import (
	"slices"
	"strconv"
	"strings"
	"testing"

	"aqueduct/api"
	"aqueduct/conn"
	"aqueduct/relay"
)

// most is more than is ever written in these tests.
const most = 1 << 30

// list is one of names and values, in turn. A name that ends with "!" is a secret header's.
func list(texts ...string) []api.Header {
	var l []api.Header
	for i := 0; i+1 < len(texts); i += 2 {
		name, secret := strings.CutSuffix(texts[i], "!")
		l = append(l, api.Header{Name: name, Value: texts[i+1], Secret: secret})
	}
	return l
}

func request(texts ...string) []api.Header {
	return slices.Concat(list(":method", "POST", ":scheme", "https", ":path", "/"), list(texts...))
}

func response(status string, texts ...string) []api.Header {
	return slices.Concat(list(":status", status), list(texts...))
}

// headers is a list as it is told: of requests only what is not the same in all.
func headers(l []api.Header) string {
	text := ""
	for _, h := range l {
		if h.Name == ":method" || h.Name == ":scheme" || h.Name == ":path" {
			continue
		}
		text += " " + h.Name + "=" + h.Value
		if h.Secret {
			text += "!"
		}
	}
	return text
}

// told is an event as it is told.
func told(e api.Event) string {
	names := map[int]string{api.EvHeaders: "headers", api.EvData: "data", api.EvTrailers: "trailers", api.EvReset: "reset", api.EvGoaway: "goaway", api.EvOpen: "open", api.EvFault: "fault", api.EvBad: "bad"}
	text := names[e.Kind] + " " + strconv.Itoa(e.Stream) + headers(e.List)
	if n := len(e.Bytes); n > 20 {
		text += " " + strconv.Itoa(n) + " bytes"
	} else if n > 0 {
		text += " " + string(e.Bytes)
	}
	if e.End {
		text += " end"
	}
	if e.Kind == api.EvReset || e.Kind == api.EvBad || e.Kind == api.EvFault || e.Kind == api.EvGoaway {
		text += " code " + strconv.Itoa(e.Code)
	}
	return text
}

// setup is that of an end with windows of 100, some streams, and room for 300 bytes.
func setup(server bool) api.Setup {
	return api.Setup{Server: server, Streams: 9, Window: 100, Frame: api.MinFrame, List: api.MaxInt, Table: 4096, Queue: 300}
}

func mustNew(t *testing.T, s api.Setup) *conn.Conn {
	t.Helper()
	c, e := conn.New(s)
	if c == nil || e != api.OK {
		t.Fatalf("conn.New(%v) = %v, %d", s, c, e)
	}
	return c
}

// chain is a client, a server, and a pair between them.
type chain struct {
	t                           *testing.T
	client, front, back, server *conn.Conn
	p                           *relay.Pair
}

// plan says how a chain is made. What is not said is as setup has it.
type plan struct {
	front, back api.Setup // of the pair's connections
	ended       bool      // the request has no data
	buffer      int
}

// Numbers of the pair's streams, which are not the same.
const (
	atFront = 1
	atBack  = 3
)

// begin lets a client send the head of a request, which is passed on.
func begin(t *testing.T, s plan) *chain {
	t.Helper()
	if s.front.Frame == 0 {
		s.front = setup(true)
	}
	if s.back.Frame == 0 {
		s.back = setup(false)
	}
	if s.buffer == 0 {
		s.buffer = api.Window
	}
	k := &chain{t: t, client: mustNew(t, setup(false)), front: mustNew(t, s.front), back: mustNew(t, s.back), server: mustNew(t, setup(true))}
	for range 3 {
		pass(t, k.client, k.front)
		pass(t, k.front, k.client)
		pass(t, k.back, k.server)
		pass(t, k.server, k.back)
	}
	k.opens(k.client, s.ended, atFront)
	k.opens(k.back, true, 1) // another one, that is none of the pair's
	k.opens(k.back, s.ended, atBack)
	pass(t, k.client, k.front)
	pass(t, k.back, k.server)
	p, e := relay.New(k.front, atFront, k.back, atBack, s.buffer)
	if p == nil || e != api.OK {
		t.Fatalf("New = %v, %d", p, e)
	}
	k.p = p
	return k
}

func (k *chain) opens(c *conn.Conn, end bool, want int) {
	k.t.Helper()
	if id, e := c.Open(request(), end); id != want || e != api.OK {
		k.t.Fatalf("Open = %d, %d, want %d", id, e, want)
	}
}

// pass hands all that one end has to write to the other one, and answers what that tells.
func pass(t *testing.T, from, to *conn.Conn) []api.Event {
	t.Helper()
	l, e := to.In(from.Out(most))
	if e != api.OK {
		t.Fatalf("In = %d", e)
	}
	return l
}

// up passes what the client has written to the pair, down what the server has.
func (k *chain) up() {
	k.t.Helper()
	for _, e := range pass(k.t, k.client, k.front) {
		k.frontIs(e, api.OK)
	}
}

func (k *chain) down() {
	k.t.Helper()
	for _, e := range pass(k.t, k.server, k.back) {
		k.backIs(e, api.OK)
	}
}

func (k *chain) frontIs(e api.Event, want api.Errno) {
	k.t.Helper()
	if got := k.p.Front(e); got != want {
		k.t.Fatalf("Front(%s) = %d, want %d", told(e), got, want)
	}
}

func (k *chain) backIs(e api.Event, want api.Errno) {
	k.t.Helper()
	if got := k.p.Back(e); got != want {
		k.t.Fatalf("Back(%s) = %d, want %d", told(e), got, want)
	}
}

func (k *chain) lostIs(front bool, want api.Errno) {
	k.t.Helper()
	if got := k.p.Lost(front); got != want {
		k.t.Fatalf("Lost(%v) = %d, want %d", front, got, want)
	}
}

func (k *chain) moves(want int) {
	k.t.Helper()
	if got := k.p.Move(); got != want {
		k.t.Fatalf("Move = %d, want %d", got, want)
	}
}

// clientHears, serverHears: what the pair's connections have written is told there so.
func (k *chain) clientHears(want ...string) {
	k.t.Helper()
	hears(k.t, "client", pass(k.t, k.front, k.client), want)
}

func (k *chain) serverHears(want ...string) {
	k.t.Helper()
	hears(k.t, "server", pass(k.t, k.back, k.server), want)
}

func hears(t *testing.T, who string, l []api.Event, want []string) {
	t.Helper()
	var got []string
	for _, e := range l {
		got = append(got, told(e))
	}
	if !slices.Equal(got, want) {
		t.Fatalf("the %s hears %q, want %q", who, got, want)
	}
}

// is looks at all that a pair tells of itself without being changed.
func (k *chain) is(over, passed bool, held int) {
	k.t.Helper()
	if k.p.Over() != over || k.p.Passed() != passed || k.p.Held() != held {
		k.t.Fatalf("Over, Passed, Held = %v, %v, %d, want %v, %v, %d", k.p.Over(), k.p.Passed(), k.p.Held(), over, passed, held)
	}
	if x, y := k.p.Streams(); x != atFront || y != atBack {
		k.t.Fatalf("Streams() = %d, %d", x, y)
	}
}

// quiet: neither side has heard anything.
func (k *chain) quiet() {
	k.t.Helper()
	k.clientHears()
	k.serverHears()
}

// sends lets an end send data.
func (k *chain) sends(c *conn.Conn, stream int, s string, end bool) {
	k.t.Helper()
	if n, e := c.Data(stream, []byte(s), end); n != len(s) || e != api.OK {
		k.t.Fatalf("Data(%d, %q) = %d, %d", stream, s, n, e)
	}
}

func (k *chain) heads(c *conn.Conn, stream int, l []api.Header, end bool) {
	k.t.Helper()
	if e := c.Headers(stream, l, end); e != api.OK {
		k.t.Fatalf("Headers(%d, %v) = %d", stream, l, e)
	}
}

func (k *chain) resets(c *conn.Conn, stream int, code int) {
	k.t.Helper()
	if e := c.Reset(stream, code); e != api.OK {
		k.t.Fatalf("Reset(%d, %d) = %d", stream, code, e)
	}
}

// responds lets the server respond, and the client hear of it.
func (k *chain) responds(end bool) {
	k.t.Helper()
	k.heads(k.server, atBack, response("200"), end)
	k.down()
	want := "headers 1 :status=200 via=2 aqueduct"
	if end {
		want += " end"
	}
	k.clientHears(want)
}

// Events as a connection would tell them.
func dataOf(stream int, s string, end bool) api.Event {
	return api.Event{Kind: api.EvData, Stream: stream, Bytes: []byte(s), End: end}
}

func headOf(stream int, l []api.Header, end bool) api.Event {
	return api.Event{Kind: api.EvHeaders, Stream: stream, List: l, End: end}
}

func tailOf(stream int, l []api.Header) api.Event {
	return api.Event{Kind: api.EvTrailers, Stream: stream, List: l, End: true}
}

func resetOf(stream int, code int) api.Event {
	return api.Event{Kind: api.EvReset, Stream: stream, Code: code}
}

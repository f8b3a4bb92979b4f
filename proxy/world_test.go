package proxy_test

import (
	"maps"
	"slices"
	"strconv"
	"strings"
	"testing"

	"aqueduct/api"
	"aqueduct/conn"
	"aqueduct/frame"
	"aqueduct/proxy"
)

// most is more than is ever written in these tests.
const most = 1 << 30

// clients is how many clients' connections the proxies of these tests have: the backends' have the numbers from there on.
const clients = 2

// config is that of two clients and two backends, which are dialled at the first tick.
func config() api.Config {
	return api.Config{Backs: 2, Conns: clients, Streams: 3, Buffer: 100, Queue: 300, Health: api.Health{Fail: 1, Rise: 1}, Retry: 1, Most: 8, List: api.MaxPump}
}

// peer is the setup of the ends that talk to a proxy.
func peer(server bool) api.Setup {
	return api.Setup{Server: server, Streams: 9, Window: 1000, Frame: api.MinFrame, List: api.MaxInt, Table: 4096, Queue: api.MaxRing}
}

// list is one of names and values, in turn. A name that ends with "!" is a secret header's.
func list(texts ...string) []api.Header {
	var l []api.Header
	for i := 0; i+1 < len(texts); i += 2 {
		name, secret := strings.CutSuffix(texts[i], "!")
		l = append(l, api.Header{Name: name, Value: texts[i+1], Secret: secret})
	}
	return l
}

func request(texts ...string) []api.Header {
	return slices.Concat(list(":method", "POST", ":scheme", "https", ":path", "/"), list(texts...))
}

func response(status string, texts ...string) []api.Header {
	return slices.Concat(list(":status", status), list(texts...))
}

// headers is a list as it is told: of requests only what is not the same in all.
func headers(l []api.Header) string {
	text := ""
	for _, h := range l {
		if h.Name == ":method" || h.Name == ":scheme" || h.Name == ":path" {
			continue
		}
		text += " " + h.Name + "=" + h.Value
		if h.Secret {
			text += "!"
		}
	}
	return text
}

// told is an event as it is told.
func told(e api.Event) string {
	names := map[int]string{api.EvHeaders: "headers", api.EvData: "data", api.EvTrailers: "trailers", api.EvReset: "reset", api.EvGoaway: "goaway", api.EvOpen: "open", api.EvFault: "fault", api.EvBad: "bad"}
	text := names[e.Kind] + " " + strconv.Itoa(e.Stream) + headers(e.List)
	if n := len(e.Bytes); n > 20 {
		text += " " + strconv.Itoa(n) + " bytes"
	} else if n > 0 {
		text += " " + string(e.Bytes)
	}
	if e.End {
		text += " end"
	}
	if e.Kind == api.EvReset || e.Kind == api.EvBad || e.Kind == api.EvFault || e.Kind == api.EvGoaway {
		text += " code " + strconv.Itoa(e.Code)
	}
	return text
}

// world is a proxy with all that talks to it.
type world struct {
	t      *testing.T
	config api.Config
	p      *proxy.Proxy
	peers  map[int]*conn.Conn // the other ends of connections, by their numbers
	setups map[int]api.Setup  // of those that are not as peer has it
	news   map[int][]string   // what they were told since somebody asked
	raw    map[int][]byte     // what was written to them since somebody asked
}

// newWorld makes a proxy that nobody talks to.
func newWorld(t *testing.T, c api.Config) *world {
	t.Helper()
	p, e := proxy.New(c)
	if p == nil || e != api.OK {
		t.Fatalf("New(%v) = %v, %d", c, p, e)
	}
	return &world{t: t, config: c, p: p, peers: map[int]*conn.Conn{}, setups: map[int]api.Setup{}, news: map[int][]string{}, raw: map[int][]byte{}}
}

// begin makes a proxy of which all connections are open and have changed their settings.
func begin(t *testing.T, c api.Config) *world {
	t.Helper()
	w := newWorld(t, c)
	w.begins()
	return w
}

func (w *world) begins() {
	w.t.Helper()
	w.do(api.In{What: api.InTick})
	for n := range w.config.Conns {
		w.joins(n)
	}
	for n := range w.config.Backs {
		w.backs(n)
	}
	w.runs()
	w.forgets()
}

// at is the number of a backend's connection.
func (w *world) at(back int) int {
	return w.config.Conns + back
}

// do lets the proxy take an event, hands what it writes to the peers, and answers what else it does.
func (w *world) do(e api.In) []string {
	w.t.Helper()
	var outs []string
	for _, o := range w.p.Do(e) {
		switch o.What {
		case api.OutBytes:
			if e.What != api.InBudget || o.A != e.A || len(o.Bytes) == 0 || len(o.Bytes) > e.B {
				w.t.Fatalf("at %v it writes %d bytes to %d", e, len(o.Bytes), o.A)
			}
			w.hands(o.A, o.Bytes)
		case api.OutClose:
			outs = append(outs, "close "+strconv.Itoa(o.A))
		case api.OutDial:
			outs = append(outs, "dial "+strconv.Itoa(o.A))
		default:
			w.t.Fatalf("at %v it does %v", e, o)
		}
		if o.What != api.OutBytes && o.Bytes != nil {
			w.t.Fatalf("at %v it does %v", e, o)
		}
	}
	w.counts()
	return outs
}

// counts: what the proxy tells of itself fits together.
func (w *world) counts() {
	w.t.Helper()
	sum := 0
	for _, n := range w.p.Loads() {
		sum += n
	}
	if sum > w.p.Pairs() || len(w.p.Loads()) != w.config.Backs {
		w.t.Fatalf("loads %v, %d pairs", w.p.Loads(), w.p.Pairs())
	}
	if w.p.Held() < 0 || w.p.Held() > w.p.Most() {
		w.t.Fatalf("%d are held, of %d", w.p.Held(), w.p.Most())
	}
}

// hands gives a peer what the proxy has written.
func (w *world) hands(n int, b []byte) {
	w.t.Helper()
	w.raw[n] = append(w.raw[n], b...)
	c := w.peers[n]
	if c == nil || c.Failed() >= 0 {
		return
	}
	l, e := c.In(b)
	if e != api.OK {
		w.t.Fatalf("In = %d", e)
	}
	for _, e := range l {
		w.news[n] = append(w.news[n], told(e))
	}
}

// does is do, of which it is known what else it does.
func (w *world) does(e api.In, want ...string) {
	w.t.Helper()
	if got := w.do(e); !slices.Equal(got, want) {
		w.t.Fatalf("at %v it does %q, want %q", e, got, want)
	}
}

func (w *world) meets(n int, server bool) {
	s, other := w.setups[n]
	if !other {
		s = peer(server)
	}
	c, e := conn.New(s)
	if e != api.OK {
		w.t.Fatalf("conn.New = %d", e)
	}
	w.peers[n] = c
}

// joins lets a client's connection open.
func (w *world) joins(n int) {
	w.t.Helper()
	w.meets(n, false)
	w.does(api.In{What: api.InOpen, A: n})
}

// backs lets the connection to a backend open that was dialled.
func (w *world) backs(n int) {
	w.t.Helper()
	w.meets(w.at(n), true)
	w.does(api.In{What: api.InBack, A: n, B: 1})
}

func (w *world) ticks(want ...string) {
	w.t.Helper()
	w.does(api.In{What: api.InTick}, want...)
}

// sends gives the proxy what a peer has written.
func (w *world) sends(n int, want ...string) {
	w.t.Helper()
	if b := w.peers[n].Out(most); len(b) > 0 {
		w.gives(n, b, want...)
	}
}

// gives gives the proxy bytes.
func (w *world) gives(n int, b []byte, want ...string) {
	w.t.Helper()
	w.does(api.In{What: api.InBytes, A: n, Bytes: b}, want...)
}

// takes lets the proxy write all that it can.
func (w *world) takes(n int, want ...string) {
	w.t.Helper()
	w.does(api.In{What: api.InBudget, A: n, B: most}, want...)
}

// closes lets a connection close.
func (w *world) closes(n int) {
	w.t.Helper()
	w.does(api.In{What: api.InClose, A: n})
}

// runs lets all talk to each other till nobody has anything to say.
func (w *world) runs() {
	w.t.Helper()
	for range 12 {
		for _, n := range slices.Sorted(maps.Keys(w.peers)) {
			if w.p.Open(n) {
				w.sends(n)
				w.takes(n)
			}
		}
	}
}

// hears looks at what a peer was told.
func (w *world) hears(n int, want ...string) {
	w.t.Helper()
	if got := w.news[n]; !slices.Equal(got, want) {
		w.t.Fatalf("at %d they hear %q, want %q", n, got, want)
	}
	delete(w.news, n)
}

// forgets lets go what was told till now.
func (w *world) forgets() {
	clear(w.news)
	clear(w.raw)
}

// is looks at what the proxy tells of its pairs.
func (w *world) is(pairs int, loads ...int) {
	w.t.Helper()
	if w.p.Pairs() != pairs || !slices.Equal(w.p.Loads(), loads) {
		w.t.Fatalf("%d pairs, loads %v, want %d, %v", w.p.Pairs(), w.p.Loads(), pairs, loads)
	}
}

// open looks at which connections are open.
func (w *world) open(want ...int) {
	w.t.Helper()
	var got []int
	for n := -2; n < w.config.Conns+w.config.Backs+2; n++ {
		if w.p.Open(n) {
			got = append(got, n)
		}
	}
	if !slices.Equal(got, want) {
		w.t.Fatalf("open are %v, want %v", got, want)
	}
}

// asks lets a client send a request, which the proxy takes with a draw. It answers the stream's number.
func (w *world) asks(n int, draw int, end bool, texts ...string) int {
	w.t.Helper()
	id, e := w.peers[n].Open(request(texts...), end)
	if e != api.OK {
		w.t.Fatalf("Open = %d", e)
	}
	w.does(api.In{What: api.InBytes, A: n, Draw: draw, Bytes: w.peers[n].Out(most)})
	return id
}

// heads lets a peer send headers on a stream.
func (w *world) heads(n int, stream int, l []api.Header, end bool) {
	w.t.Helper()
	if e := w.peers[n].Headers(stream, l, end); e != api.OK {
		w.t.Fatalf("Headers = %d", e)
	}
}

// data lets a peer send data on a stream.
func (w *world) data(n int, stream int, s string, end bool) {
	w.t.Helper()
	if k, e := w.peers[n].Data(stream, []byte(s), end); k != len(s) || e != api.OK {
		w.t.Fatalf("Data = %d, %d", k, e)
	}
}

func (w *world) resets(n int, stream int, code int) {
	w.t.Helper()
	if e := w.peers[n].Reset(stream, code); e != api.OK {
		w.t.Fatalf("Reset = %d", e)
	}
}

// bytesOf is what frames are in bytes.
func bytesOf(t *testing.T, frames ...api.Frame) []byte {
	t.Helper()
	var b []byte
	for _, f := range frames {
		x, e := frame.Write(f)
		if e != api.OK {
			t.Fatalf("frame.Write(%v) = %d", f, e)
		}
		b = append(b, x...)
	}
	return b
}

// wrote answers the frames that were written to a peer, as it is told: type, stream, and what is of use of the others.
func (w *world) wrote(n int) []string {
	w.t.Helper()
	var l []string
	for b := w.raw[n]; len(b) > 0; {
		f, next, bad, e := frame.Parse(b, api.MaxFrame)
		if e != api.OK || bad.Is {
			w.t.Fatalf("Parse(%x) = %v, %d", b, bad, e)
		}
		names := map[int]string{api.FData: "DATA", api.FHeaders: "HEADERS", api.FReset: "RST", api.FGoaway: "GOAWAY", api.FWindow: "WINDOW", api.FSettings: "SETTINGS"}
		text := names[f.Type] + " " + strconv.Itoa(f.Stream)
		if f.Type == api.FData {
			text += " " + strconv.Itoa(len(f.Payload))
		}
		if k := int(f.Code) + f.Inc + f.Last; k > 0 {
			text += " " + strconv.Itoa(k)
		}
		l = append(l, text)
		b = b[next:]
	}
	delete(w.raw, n)
	return l
}

// writes looks at the frames that were written to a peer.
func (w *world) writes(n int, want ...string) {
	w.t.Helper()
	if got := w.wrote(n); !slices.Equal(got, want) {
		w.t.Fatalf("to %d it writes %q, want %q", n, got, want)
	}
}

package relay_test

import (
	"bytes"
	"math/rand"
	"slices"
	"strings"
	"testing"

	"aqueduct/api"
	"aqueduct/conn"
	"aqueduct/relay"
	"aqueduct/rewrite"
)

// lane is one way of a plain pair.
type lane struct {
	bytes    []byte
	open     bool
	trailers []api.Header
	tail     bool
	handed   bool // the end was
}

func (l *lane) put(b []byte, most int) bool {
	if !l.open || len(l.bytes)+len(b) > most {
		return false
	}
	l.bytes = append(l.bytes, b...)
	return true
}

func (l *lane) hang(e api.Event) bool {
	t, bad := rewrite.Trailers(e.List)
	if bad != api.OK || !l.open {
		return false
	}
	l.open, l.trailers, l.tail = false, t, true
	return true
}

// model is a plain pair, on connections of its own, done word by word as the chapter has it.
type model struct {
	front, back         *conn.Conn
	a, b, buffer        int
	up, down            lane // to the back, to the front
	frontOver, backOver bool // said so
	passed              bool
}

func (m *model) isFrontOver() bool {
	return m.frontOver || m.front.State(m.a) == api.SClosed && len(m.up.bytes) == 0 && !m.up.open
}

func (m *model) isBackOver() bool {
	return m.backOver || m.back.State(m.b) == api.SClosed && len(m.down.bytes) == 0 && !m.down.open
}

func (m *model) over() bool { return m.isFrontOver() && m.isBackOver() }

func (m *model) cut() {
	m.front.Reset(m.a, api.CFlow)
	m.back.Reset(m.b, api.CCancel)
	m.frontOver, m.backOver = true, true
}

func (m *model) answer(status int) {
	if !m.passed {
		m.front.Headers(m.a, rewrite.Plain(status), true)
		if m.front.State(m.a) != api.SClosed {
			m.front.Reset(m.a, api.CNone)
		}
	} else {
		m.front.Reset(m.a, api.CInternal)
	}
	if !m.isBackOver() {
		m.back.Reset(m.b, api.CCancel)
	}
	m.frontOver, m.backOver = true, true
}

func (m *model) Front(e api.Event) api.Errno {
	if e.Stream != m.a {
		return api.ErrArg
	}
	if m.over() {
		return api.ErrState
	}
	switch e.Kind {
	case api.EvData:
		if !m.up.put(e.Bytes, m.buffer) {
			m.cut()
		} else if e.End {
			m.up.open = false
		}
	case api.EvTrailers:
		if !m.up.hang(e) {
			m.cut()
		}
	case api.EvReset, api.EvBad:
		m.frontOver = true
		m.back.Reset(m.b, api.CCancel)
		m.backOver = true
	}
	return api.OK
}

func (m *model) Back(e api.Event) api.Errno {
	if e.Stream != m.b {
		return api.ErrArg
	}
	if m.over() {
		return api.ErrState
	}
	switch e.Kind {
	case api.EvHeaders:
		m.respond(e)
	case api.EvData:
		if !m.down.put(e.Bytes, m.buffer) {
			m.answer(502)
		} else if e.End {
			m.down.open = false
		}
	case api.EvTrailers:
		if !m.down.hang(e) {
			m.answer(502)
		}
	case api.EvReset, api.EvBad:
		m.backOver = true
		if !m.down.open {
			break
		}
		if m.passed {
			m.front.Reset(m.a, e.Code)
			m.frontOver = true
		} else if e.Code == api.CRefused {
			m.answer(503)
		} else {
			m.answer(502)
		}
	}
	return api.OK
}

func (m *model) respond(e api.Event) {
	l, bad := rewrite.Response(e.List, "aqueduct")
	if bad != api.OK {
		m.answer(502)
		return
	}
	if l[0].Value < "200" {
		return
	}
	if m.front.Headers(m.a, l, e.End) != api.OK {
		m.back.Reset(m.b, api.CCancel)
		m.frontOver, m.backOver = true, true
		return
	}
	m.passed = true
	if e.End {
		m.down.open, m.down.handed = false, true
	}
}

func (m *model) Lost(front bool) api.Errno {
	if m.over() {
		return api.ErrState
	}
	if front {
		m.frontOver = true
		m.back.Reset(m.b, api.CCancel)
		m.backOver = true
		return api.OK
	}
	m.backOver = true
	if m.down.open {
		m.answer(502)
	}
	return api.OK
}

func (m *model) Move() int {
	n := moveLane(&m.up, m.front, m.a, m.back, m.b, m.isBackOver(), &m.backOver)
	if m.passed {
		n += moveLane(&m.down, m.back, m.b, m.front, m.a, m.isFrontOver(), &m.frontOver)
	}
	return n
}

func moveLane(l *lane, from *conn.Conn, x int, to *conn.Conn, y int, over bool, said *bool) int {
	if over {
		from.Used(x, len(l.bytes))
		l.bytes = nil
		return 0
	}
	got := 0
	n := min(len(l.bytes), to.Room(y))
	end := n == len(l.bytes) && !l.open && !l.tail && !l.handed
	if n > 0 || end {
		k, e := to.Data(y, l.bytes[:n], end)
		if e == api.OK && end {
			l.handed = true
		}
		*said = *said || e == api.ErrNone
		l.bytes = l.bytes[k:]
		from.Used(x, k)
		got = k
	}
	if l.tail && len(l.bytes) == 0 {
		l.tail = false
		e := to.Headers(y, l.trailers, true)
		*said = *said || e == api.ErrNone
		l.handed = l.handed || e == api.OK
	}
	return got
}

// both are a pair and a plain one, each on connections of its own that are given the same.
type both struct {
	*chain
	m    *model
	src  *rand.Rand
	wild bool
}

// compare holds what a call answers against what the plain pair does.
func (k *both) compare(what string, got, want int) {
	k.t.Helper()
	if got != want {
		k.t.Fatalf("%s = %d, the plain pair has %d", what, got, want)
	}
}

// newBoth lets a request be opened, and a pair and a plain one have it.
func newBoth(t *testing.T, src *rand.Rand) *both {
	t.Helper()
	pick := func(l ...int) int { return l[src.Intn(len(l))] }
	s := plan{front: setup(true), back: setup(false), ended: src.Intn(4) == 0, buffer: pick(100, 150, api.Window)}
	s.front.Window, s.back.Window = pick(1, 20, 100), pick(1, 20, 100)
	s.front.Queue, s.back.Queue = pick(0, 1, 7, 300), pick(0, 1, 7, 300)
	k, twin := begin(t, s), begin(t, s)
	m := &model{front: twin.front, back: twin.back, a: atFront, b: atBack, buffer: s.buffer}
	m.up.open, m.down.open = !s.ended, true
	m.up.handed = s.ended
	return &both{chain: k, m: m, src: src, wild: src.Intn(3) == 0}
}

// given hands bytes to one of the pair's connections, and to the plain pair's, and what they tell to the pairs.
func (k *both) given(b []byte, one, two *conn.Conn, pair, plain func(api.Event) api.Errno) {
	k.t.Helper()
	x, e := one.In(b)
	y, f := two.In(b)
	k.compare("In", int(e), int(f))
	if len(x) != len(y) {
		k.t.Fatalf("In tells %v, and %v", x, y)
	}
	for i := range x {
		k.tells(x[i], y[i], pair, plain)
	}
}

func (k *both) tells(x, y api.Event, pair, plain func(api.Event) api.Errno) {
	k.t.Helper()
	e, f := pair(x), plain(y)
	k.compare(told(x), int(e), int(f))
}

// some is a text of some bytes.
func (k *both) some(most int) string {
	return strings.Repeat("s", k.src.Intn(most+1))
}

// wrong is an event that no connection has told.
func (k *both) wrong() api.Event {
	lists := [][]api.Header{response("200"), response("100"), response("99"), list("x", "y"), list("X", "y"), nil}
	return api.Event{
		Kind:   k.src.Intn(10),
		Stream: []int{atFront, atBack}[k.src.Intn(2)],
		List:   lists[k.src.Intn(len(lists))],
		Bytes:  []byte(k.some(60)),
		End:    k.src.Intn(3) == 0,
		Code:   k.src.Intn(14) - 1,
	}
}

// past is a call of the connections past the pairs.
func (k *both) past() {
	one, two, id := k.front, k.m.front, atFront
	if k.src.Intn(2) == 0 {
		one, two, id = k.back, k.m.back, atBack
	}
	end := k.src.Intn(2) == 0
	switch k.src.Intn(5) {
	case 0:
		k.compare("Reset", int(one.Reset(id, 1)), int(two.Reset(id, 1)))
	case 1:
		one.Data(id, []byte("p"), end)
		two.Data(id, []byte("p"), end)
	case 2:
		l := [][]api.Header{response("200"), list("x", "y")}[k.src.Intn(2)]
		k.compare("Headers", int(one.Headers(id, l, end)), int(two.Headers(id, l, end)))
	case 3:
		k.compare("Used", int(one.Used(id, 1)), int(two.Used(id, 1)))
	case 4:
		b := make([]byte, 9*k.src.Intn(2)) // DATA of stream 0, by which a connection fails
		k.compare("In", inIs(one, b), inIs(two, b))
	}
}

func inIs(c *conn.Conn, b []byte) int {
	_, e := c.In(b)
	return int(e)
}

// peers lets the client or the server do something.
func (k *both) peers() {
	c, id := k.client, atFront
	if k.src.Intn(2) == 0 {
		c, id = k.server, atBack
		if k.src.Intn(3) == 0 {
			l := [][]api.Header{response("200"), response("103"), response("200", "via", "x"), response("204")}[k.src.Intn(4)]
			c.Headers(id, l, k.src.Intn(6) == 0)
		}
	}
	switch n := k.src.Intn(40); {
	case n < 25:
		c.Data(id, []byte(k.some(60)), k.src.Intn(8) == 0)
	case n == 25:
		c.Headers(id, list("x", k.some(4)), true)
	case n == 26 && k.src.Intn(3) == 0:
		c.Reset(id, k.src.Intn(9))
	default:
		c.Used(id, k.src.Intn(30))
	}
}

// step does one thing with both pairs.
func (k *both) step() {
	k.t.Helper()
	switch n := k.src.Intn(60); {
	case n < 15:
		k.peers()
	case n < 25:
		k.given(k.client.Out(k.src.Intn(200)), k.front, k.m.front, k.p.Front, k.m.Front)
	case n < 35:
		k.given(k.server.Out(k.src.Intn(200)), k.back, k.m.back, k.p.Back, k.m.Back)
	case n < 55:
		k.compare("Move", k.p.Move(), k.m.Move())
	case n == 55 && k.src.Intn(9) == 0:
		front := k.src.Intn(2) == 0
		k.compare("Lost", int(k.p.Lost(front)), int(k.m.Lost(front)))
	case n == 56 && k.wild:
		e := k.wrong()
		k.tells(e, e, k.p.Front, k.m.Front)
	case n == 57 && k.wild:
		e := k.wrong()
		k.tells(e, e, k.p.Back, k.m.Back)
	case n == 58 && k.wild:
		k.past()
	}
}

// same holds all against each other that can be asked, and lets the peers have what was written.
func (k *both) same() {
	k.t.Helper()
	for _, c := range []struct{ one, two, peer *conn.Conn }{{k.front, k.m.front, k.client}, {k.back, k.m.back, k.server}} {
		n := k.src.Intn(1 << k.src.Intn(10))
		x, y := c.one.Out(n), c.two.Out(n)
		if !bytes.Equal(x, y) {
			k.t.Fatalf("written: %x, the plain pair has %x", x, y)
		}
		c.peer.In(x)
		k.compare("Waiting", c.one.Waiting(), c.two.Waiting())
		k.compare("Held", c.one.Held(), c.two.Held())
		k.compare("Failed", c.one.Failed(), c.two.Failed())
		if !slices.Equal(c.one.Streams(), c.two.Streams()) {
			k.t.Fatalf("streams %v, the plain pair has %v", c.one.Streams(), c.two.Streams())
		}
	}
	k.compare("the pair's Held", k.p.Held(), len(k.m.up.bytes)+len(k.m.down.bytes))
	if k.p.Over() != k.m.over() || k.p.Passed() != k.m.passed {
		k.t.Fatalf("Over, Passed = %v, %v, the plain pair has %v, %v", k.p.Over(), k.p.Passed(), k.m.over(), k.m.passed)
	}
	if x, y := k.p.Streams(); x != atFront || y != atBack {
		k.t.Fatalf("Streams() = %d, %d", x, y)
	}
}

// P21.2, P21.3, P21.4, P1: random rows of all that can be done, beside a plain pair.
func TestModel(t *testing.T) {
	ends, passes := 0, 0
	for seed := range 2000 {
		k := newBoth(t, rand.New(rand.NewSource(int64(seed))))
		for range 150 {
			k.step()
			k.same()
		}
		if k.p.Over() {
			ends++
		}
		if k.p.Passed() {
			passes++
		}
		if t.Failed() {
			t.Fatalf("seed %d", seed)
		}
	}
	if ends < 700 || passes < 1000 {
		t.Errorf("too tame: %d are over, of %d a response was passed on", ends, passes)
	}
}

// both have the calls of a pair.
var _ = []interface {
	Front(api.Event) api.Errno
	Back(api.Event) api.Errno
	Move() int
	Lost(bool) api.Errno
}{(*relay.Pair)(nil), (*model)(nil)}

package relay_test

import (
	"bytes"
	"maps"
	"math/rand"
	"slices"
	"testing"

	"aqueduct/api"
	"aqueduct/conn"
	"aqueduct/relay"
)

// message is what one end sends on a stream.
type message struct {
	body  []byte
	sent  int
	tail  bool // trailers are behind it
	ended bool
}

// mailbox is what has come to one end of a stream.
type mailbox struct {
	body  []byte
	held  int
	tail  bool
	ended bool
}

// talker is a client or a server.
type talker struct {
	c       *conn.Conn
	talks   map[int]*message
	hears   map[int]*mailbox
	gone    map[int]bool // reset, by whom ever
	started map[int]bool // a request has come, a response goes
}

func newTalker(c *conn.Conn) *talker {
	return &talker{c, map[int]*message{}, map[int]*mailbox{}, map[int]bool{}, map[int]bool{}}
}

// rig is a client and a server with pairs between them, many of which share two connections.
type rig struct {
	t              *testing.T
	src            *rand.Rand
	client, server *talker
	front, back    *conn.Conn
	pairs          map[int]*relay.Pair // by the front's stream
	backs          map[int]int         // the back's stream, by the front's
	buffer         int
	resets         bool // some streams are reset
	bits           int  // of the length of bodies
	opened         int
	ended          int
}

func newRig(t *testing.T, seed int64, resets bool) *rig {
	t.Helper()
	src := rand.New(rand.NewSource(seed))
	pick := func(l ...int) int { return l[src.Intn(len(l))] }
	r := &rig{t: t, src: src, pairs: map[int]*relay.Pair{}, backs: map[int]int{}, resets: resets}
	windows, queues := []int{1, 30, 1000, api.Window}, []int{1, 20, 700, api.MaxPump}
	r.bits = 8
	if src.Intn(2) == 0 { // more than the connections' windows goes through
		windows, queues, r.bits = windows[2:], queues[2:], 17
	}
	window := pick(windows...)
	r.buffer = max(window, pick(1, 1000, api.MaxPump))
	one := func(server bool) *conn.Conn {
		s := setup(server)
		s.Window, s.Queue, s.Streams = window, pick(queues...), 100
		return mustNew(t, s)
	}
	r.client, r.server = newTalker(one(false)), newTalker(one(true))
	r.front, r.back = one(true), one(false)
	for range 3 {
		pass(t, r.client.c, r.front)
		pass(t, r.front, r.client.c)
		pass(t, r.back, r.server.c)
		pass(t, r.server.c, r.back)
	}
	return r
}

func (r *rig) newMessage() *message {
	b := make([]byte, r.src.Intn(1<<r.src.Intn(r.bits)))
	r.src.Read(b)
	return &message{body: b, tail: r.src.Intn(3) == 0}
}

// opens lets the client send a request, if it may.
func (r *rig) opens() {
	m := r.newMessage()
	m.ended = len(m.body) == 0 && !m.tail
	if id, e := r.client.c.Open(request(), m.ended); e == api.OK {
		r.client.talks[id] = m
		r.opened++
	}
}

// answers lets the server respond.
func (r *rig) answers(id int) {
	if r.server.talks[id] != nil || r.server.gone[id] {
		return
	}
	m := r.newMessage()
	m.ended = len(m.body) == 0 && !m.tail
	if e := r.server.c.Headers(id, response("200"), m.ended); e != api.OK {
		r.t.Fatalf("Headers = %d", e)
	}
	r.server.talks[id] = m
}

// goesOn lets an end send more of a message.
func (r *rig) goesOn(x *talker, id int) {
	m := x.talks[id]
	if m == nil || m.ended || x.gone[id] {
		return
	}
	rest := m.body[m.sent:]
	n, e := x.c.Data(id, rest, !m.tail)
	if e != api.OK {
		r.t.Fatalf("Data = %d", e)
	}
	m.sent += n
	if n < len(rest) {
		return
	}
	if m.tail {
		if e := x.c.Headers(id, list("sum", "1"), true); e != api.OK {
			r.t.Fatalf("Headers = %d", e)
		}
	}
	m.ended = true
}

// uses lets an end be done with some of what came.
func (r *rig) uses(x *talker, id int, all bool) {
	h := x.hears[id]
	if h == nil || h.held == 0 || x.gone[id] {
		return
	}
	n := h.held
	if !all {
		n = r.src.Intn(n + 1)
	}
	if e := x.c.Used(id, n); e != api.OK {
		r.t.Fatalf("Used = %d", e)
	}
	h.held -= n
}

// takes lets an end take bytes that its peer has written.
func (r *rig) takes(x *talker, from *conn.Conn, n int) {
	l, e := x.c.In(from.Out(n))
	if e != api.OK {
		r.t.Fatalf("In = %d", e)
	}
	for _, e := range l {
		r.hears(x, e)
	}
}

func (r *rig) hears(x *talker, e api.Event) {
	h := x.hears[e.Stream]
	if h == nil {
		h = &mailbox{}
		x.hears[e.Stream] = h
	}
	switch e.Kind {
	case api.EvHeaders:
		if x.started[e.Stream] {
			r.t.Fatalf("told %s a second time", told(e))
		}
		x.started[e.Stream] = true
	case api.EvData:
		h.body = append(h.body, e.Bytes...)
		h.held += len(e.Bytes)
	case api.EvTrailers:
		h.tail = true
	case api.EvReset:
		x.gone[e.Stream] = true
		return
	default:
		r.t.Fatalf("told %s", told(e))
	}
	h.ended = h.ended || e.End
}

// relays lets the pairs' connections take and move what there is.
func (r *rig) relays(up, down int) {
	r.t.Helper()
	x, e := r.front.In(r.client.c.Out(up))
	y, f := r.back.In(r.server.c.Out(down))
	if e != api.OK || f != api.OK {
		r.t.Fatalf("In = %d, %d", e, f)
	}
	for _, e := range x {
		if e.Kind == api.EvHeaders {
			r.pairsUp(e)
		} else if p := r.pairs[e.Stream]; p != nil {
			r.takenIs(p, e, p.Front)
		}
	}
	for _, e := range y {
		for a, b := range r.backs {
			if b == e.Stream && r.pairs[a] != nil {
				r.takenIs(r.pairs[a], e, r.pairs[a].Back)
			}
		}
	}
	r.moves()
}

// takenIs hands an event to a pair, which takes it, unless it is over by an event of the other side.
func (r *rig) takenIs(p *relay.Pair, e api.Event, take func(api.Event) api.Errno) {
	r.t.Helper()
	want := api.OK
	if p.Over() {
		want = api.ErrState
	}
	if got := take(e); got != want {
		r.t.Fatalf("%s is answered %d, want %d", told(e), got, want)
	}
}

// pairsUp opens a request at the back, unless nobody waits for it any more.
func (r *rig) pairsUp(e api.Event) {
	r.t.Helper()
	if r.front.State(e.Stream) == api.SClosed { // its reset has come as well
		r.ended++
		return
	}
	id, bad := r.back.Open(request(), e.End)
	if bad != api.OK {
		r.t.Fatalf("Open = %d", bad)
	}
	p, bad := relay.New(r.front, e.Stream, r.back, id, r.buffer)
	if bad != api.OK {
		r.t.Fatalf("New = %d", bad)
	}
	r.pairs[e.Stream], r.backs[e.Stream] = p, id
}

// moves lets all pairs move, of which those that are over go.
func (r *rig) moves() {
	for _, a := range slices.Sorted(maps.Keys(r.pairs)) {
		p := r.pairs[a]
		held := p.Held()
		n := p.Move()
		if held > 2*r.buffer || n < 0 || n > held {
			r.t.Fatalf("%d were held, with buffers of %d; %d moved", held, r.buffer, n)
		}
		if p.Over() {
			if p.Held() != 0 {
				r.t.Fatalf("a pair that is over holds %d", p.Held())
			}
			delete(r.pairs, a)
			r.ended++
		}
	}
}

// act lets one thing or another be done.
func (r *rig) act() {
	r.t.Helper()
	some := func() int { return r.src.Intn(1 << r.src.Intn(16)) }
	switch r.src.Intn(6) {
	case 0:
		if r.opened < 60 && len(r.client.c.Streams()) < 4 {
			r.opens()
		}
	case 1:
		for _, id := range slices.Sorted(maps.Keys(r.server.hears)) {
			if r.src.Intn(2) == 0 {
				r.answers(id)
			}
			r.goesOn(r.server, id)
			r.uses(r.server, id, false)
		}
	case 2:
		for _, id := range slices.Sorted(maps.Keys(r.client.talks)) {
			r.goesOn(r.client, id)
			r.uses(r.client, id, false)
		}
	case 3:
		r.relays(some(), some())
	case 4:
		r.takes(r.client, r.front, some())
		r.takes(r.server, r.back, some())
	case 5:
		if r.resets && r.src.Intn(4) == 0 {
			r.givesUp([]*talker{r.client, r.server}[r.src.Intn(2)])
		}
	}
}

// givesUp lets an end reset a stream.
func (r *rig) givesUp(x *talker) {
	open := x.c.Streams()
	if len(open) == 0 {
		return
	}
	id := open[r.src.Intn(len(open))]
	if e := x.c.Reset(id, r.src.Intn(9)); e != api.OK {
		r.t.Fatalf("Reset = %d", e)
	}
	x.gone[id] = true
}

// finish lets all be done that is left.
func (r *rig) finish() {
	for round := 0; round < 20000 && (round < 8 || len(r.pairs) > 0 || r.client.c.Waiting()+r.front.Waiting()+r.back.Waiting()+r.server.c.Waiting() > 0); round++ {
		for _, id := range slices.Sorted(maps.Keys(r.server.hears)) {
			r.answers(id)
			r.goesOn(r.server, id)
			r.uses(r.server, id, true)
		}
		for _, id := range slices.Sorted(maps.Keys(r.client.talks)) {
			r.goesOn(r.client, id)
			r.uses(r.client, id, true)
		}
		r.relays(most, most)
		r.takes(r.client, r.front, most)
		r.takes(r.server, r.back, most)
	}
}

// came holds what has come to an end against what was sent to it.
func (r *rig) came(m *message, h *mailbox, whole bool) {
	r.t.Helper()
	switch {
	case h == nil && !whole:
		return
	case h == nil || m == nil && len(h.body) > 0:
		r.t.Fatalf("nothing came, or of nothing: %v", h)
	case m == nil:
		return
	case !bytes.HasPrefix(m.body, h.body):
		r.t.Fatalf("%d bytes came that were not sent so", len(h.body))
	case whole && (len(h.body) != len(m.body) || !h.ended || h.tail != m.tail || !m.ended):
		r.t.Fatalf("%d of %d bytes came, ended %v, trailers %v of %v", len(h.body), len(m.body), h.ended, h.tail, m.tail)
	}
}

// P21.5, G1: what comes out is what went in, each way, whatever goes on beside it; and all of it, if both sides go on.
// All streams share the connections' windows: what was not used once would hold the later ones up.
func TestThrough(t *testing.T) {
	total := 0
	for seed := range 60 {
		r := newRig(t, int64(seed), seed%2 == 1)
		for range 3000 {
			r.act()
		}
		r.finish()
		if len(r.pairs) > 0 || r.opened != r.ended {
			t.Fatalf("seed %d: %d pairs, of %d; %d are not over", seed, r.ended, r.opened, len(r.pairs))
		}
		if n := len(r.front.Streams()) + len(r.back.Streams()) + len(r.client.c.Streams()) + len(r.server.c.Streams()); n != 0 {
			t.Fatalf("seed %d: %d streams are open", seed, n)
		}
		for a, b := range r.backs {
			whole := !r.client.gone[a] && !r.server.gone[b]
			r.came(r.client.talks[a], r.server.hears[b], whole)
			r.came(r.server.talks[b], r.client.hears[a], whole)
			if whole {
				total += len(r.client.talks[a].body) + len(r.server.talks[b].body)
			}
		}
	}
	if total < 1<<22 {
		t.Errorf("only %d bytes went through", total)
	}
}

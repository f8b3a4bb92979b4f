package conn_test

import (
	"bytes"
	"math/rand"
	"slices"
	"strconv"
	"strings"
	"testing"

	"aqueduct/api"
	"aqueduct/conn"
)

// talk is one message that is being sent.
type talk struct {
	body     []byte
	sent     int
	trailers bool
	ended    bool
}

// heard is one message that is coming.
type heard struct {
	body  []byte
	held  int
	ended bool
	tail  bool
}

// side is one of two ends that talk with each other.
type side struct {
	t     *testing.T
	src   *rand.Rand
	bits  int // of how many bytes a message may have
	c     *conn.Conn
	judge *judge
	pipe  []byte // what it has written and the other one has not got
	talks map[int]*talk
	heard map[int]*heard
	gone  map[int]bool // streams that were reset, by either end
	other *side
}

func newSide(t *testing.T, src *rand.Rand, s api.Setup) *side {
	return &side{t: t, src: src, bits: 13, c: mustNew(t, s), judge: newJudge(t, s.Server), talks: map[int]*talk{}, heard: map[int]*heard{}, gone: map[int]bool{}}
}

// ids are a map's keys, rising.
func ids[V any](m map[int]V) []int {
	var l []int
	for id := range m {
		l = append(l, id)
	}
	slices.Sort(l)
	return l
}

// newTalk is a message with some bytes, and the headers that tell their number, or not.
func (x *side) newTalk() (*talk, []string) {
	k := &talk{body: make([]byte, x.src.Intn(1<<x.src.Intn(x.bits))), trailers: x.src.Intn(3) == 0}
	x.src.Read(k.body)
	var texts []string
	if x.src.Intn(2) == 0 {
		texts = []string{"content-length", strconv.Itoa(len(k.body))}
	}
	for range x.src.Intn(3) {
		texts = append(texts, []string{"a", "b", "cookie!"}[x.src.Intn(3)], strings.Repeat("v", x.src.Intn(200)))
	}
	return k, texts
}

// opens lets a client's end send a request.
func (x *side) opens() {
	k, texts := x.newTalk()
	end := len(k.body) == 0 && !k.trailers
	slots := x.c.Slots()
	id, e := x.c.Open(request("POST", texts...), end)
	if slots == 0 || e != api.OK {
		if slots > 0 && e != api.ErrFull || e == api.OK {
			x.t.Fatalf("Open = %d, %d, with %d slots", id, e, slots)
		}
		return
	}
	k.ended = end
	x.talks[id], x.heard[id] = k, &heard{}
}

// answers lets a server's end send a response.
func (x *side) answers(id int) {
	if x.gone[id] || x.talks[id] != nil {
		return
	}
	if x.src.Intn(4) == 0 {
		if e := x.c.Headers(id, response("103", "a", "b"), false); e != api.OK {
			x.t.Fatalf("Headers = %d", e)
		}
	}
	k, texts := x.newTalk()
	k.ended = len(k.body) == 0 && !k.trailers
	if e := x.c.Headers(id, response("200", texts...), k.ended); e != api.OK {
		x.t.Fatalf("Headers = %d", e)
	}
	x.talks[id] = k
}

// goesOn hands more of a message in.
func (x *side) goesOn(id int) {
	k := x.talks[id]
	if k == nil || k.ended || x.gone[id] {
		return
	}
	n := x.src.Intn(len(k.body) - k.sent + 1)
	if x.src.Intn(3) == 0 {
		n = len(k.body) - k.sent
	}
	last := k.sent+n == len(k.body)
	room := x.c.Room(id)
	got, e := x.c.Data(id, k.body[k.sent:k.sent+n], last && !k.trailers)
	if e != api.OK || got != min(n, room) {
		x.t.Fatalf("Data of %d = %d, %d, with room for %d", n, got, e, room)
	}
	k.sent += got
	if k.sent < len(k.body) || got < n || !last {
		return
	}
	if k.trailers {
		if e := x.c.Headers(id, list("sum", strconv.Itoa(len(k.body))), true); e != api.OK {
			x.t.Fatalf("Headers = %d", e)
		}
	}
	k.ended = true
}

// uses lets the end be done with some of what it has held.
func (x *side) uses(id int, all bool) {
	h := x.heard[id]
	if h == nil || h.held == 0 || x.gone[id] {
		return
	}
	n := x.src.Intn(h.held + 1)
	if all {
		n = h.held
	}
	if e := x.c.Used(id, n); e != api.OK {
		x.t.Fatalf("Used(%d, %d) = %d", id, n, e)
	}
	h.held -= n
}

// writes takes some bytes out.
func (x *side) writes(n int) {
	b := x.c.Out(n)
	if len(b) > n {
		x.t.Fatalf("Out(%d) has %d bytes", n, len(b))
	}
	x.judge.wrote(b)
	x.pipe = append(x.pipe, b...)
}

// gets hands some bytes in that the other one has written.
func (x *side) gets(n int) {
	n = min(n, len(x.other.pipe))
	b := x.other.pipe[:n]
	x.other.pipe = x.other.pipe[n:]
	x.judge.got(b)
	l, e := x.c.In(b)
	if e != api.OK {
		x.t.Fatalf("In = %d", e)
	}
	for _, ev := range l {
		x.event(ev)
	}
}

func (x *side) event(e api.Event) {
	switch e.Kind {
	case api.EvHeaders:
		if x.heard[e.Stream] == nil {
			x.heard[e.Stream] = &heard{}
		}
		x.heard[e.Stream].ended = e.End
	case api.EvData:
		h := x.heard[e.Stream]
		h.body = append(h.body, e.Bytes...)
		h.held += len(e.Bytes)
		h.ended = e.End
	case api.EvTrailers:
		h := x.heard[e.Stream]
		if headers(e.List) != " sum="+strconv.Itoa(len(h.body)) {
			x.t.Fatalf("trailers %v behind %d bytes", e.List, len(h.body))
		}
		h.ended, h.tail = true, true
	case api.EvReset:
		x.gone[e.Stream] = true
	case api.EvOpen, api.EvGoaway:
	default:
		x.t.Fatalf("told %s", told(e))
	}
	if h := x.heard[e.Stream]; h != nil {
		if k := x.other.talks[e.Stream]; k == nil && len(h.body) > 0 || k != nil && !bytes.HasPrefix(k.body, h.body) {
			x.t.Fatalf("stream %d: what came is not what went", e.Stream)
		}
	}
}

// act is a thing that an end does.
func (x *side) act(server bool) {
	live := ids(x.heard)
	switch id := 0; x.src.Intn(8) {
	case 0:
		if !server && len(x.talks) < 40 {
			x.opens()
		}
	case 1, 2, 3:
		for _, id = range live {
			if server && x.src.Intn(2) == 0 {
				x.answers(id)
			}
			if x.src.Intn(2) == 0 {
				x.goesOn(id)
			}
			if x.src.Intn(2) == 0 {
				x.uses(id, false)
			}
		}
	case 4, 5:
		x.writes(1 + x.src.Intn(1<<x.src.Intn(17)))
	case 6:
		x.gets(1 + x.src.Intn(1<<x.src.Intn(17)))
	case 7:
		if len(live) > 0 && x.src.Intn(12) == 0 {
			id = live[x.src.Intn(len(live))]
			if x.c.Reset(id, api.CCancel) == api.OK {
				x.gone[id] = true
			}
		}
	}
}

// finish lets both ends do all that is left.
func finish(a, b *side) {
	for round, idle := 0, 0; round < 20000 && idle < 4; round++ {
		for _, x := range []*side{a, b} {
			for _, id := range ids(x.heard) {
				if x == b {
					x.answers(id)
				}
				x.goesOn(id)
				x.uses(id, true)
			}
			x.writes(1 << 20)
		}
		a.gets(1 << 20)
		b.gets(1 << 20)
		if len(a.c.Streams())+len(b.c.Streams()) == 0 {
			idle++
		}
	}
}

// P15.8: two ends that talk, by whatever cuts: no fault comes, what each writes is a legal trace, and all comes out that went in.
func TestTwoEnds(t *testing.T) {
	for seed := range 60 {
		src := rand.New(rand.NewSource(int64(seed)))
		pick := func(l ...int) int { return l[src.Intn(len(l))] }
		one := func(server bool) api.Setup {
			s := api.Setup{Server: server, Streams: 1 + src.Intn(5), Window: pick(1, 7, 100, 1000, 65535, 100000), Frame: pick(16384, 20000, api.MaxFrame), List: 4000, Table: pick(0, 40, 300, 4096, 65536), Queue: pick(1, 50, 1000, 70000)}
			if seed%4 == 0 {
				s.Window, s.Queue = max(s.Window, 1000), max(s.Queue, 1000)
			}
			return s
		}
		a, b := newSide(t, src, one(false)), newSide(t, src, one(true))
		a.other, b.other = b, a
		if seed%4 == 0 {
			a.bits, b.bits = 17, 17
		}
		for range 1500 {
			a.act(false)
			b.act(true)
		}
		finish(a, b)
		if a.c.Waiting()+b.c.Waiting() != 0 || len(a.c.Streams())+len(b.c.Streams()) != 0 {
			t.Errorf("seed %d: %d and %d wait, %v and %v are open", seed, a.c.Waiting(), b.c.Waiting(), a.c.Streams(), b.c.Streams())
		}
		for _, x := range []*side{a, b} {
			for _, id := range ids(x.talks) {
				k, h := x.talks[id], x.other.heard[id]
				if !x.gone[id] && !x.other.gone[id] && (!k.ended || !h.ended || h.tail != k.trailers || !bytes.Equal(k.body, h.body)) {
					t.Errorf("seed %d: stream %d: %d of %d bytes have come", seed, id, len(h.body), len(k.body))
				}
				if x.c.Used(id, 0) != api.ErrNone {
					t.Errorf("seed %d: stream %d is known still", seed, id)
				}
			}
		}
	}
}

// someStream is the number of one that is open, mostly; else of a new one, or of any.
func (p *peer) someStream(src *rand.Rand) int {
	open := p.c.Streams()
	switch n := src.Intn(200); {
	case n == 0:
		return 1 + src.Intn(12)
	case len(open) > 0 && n > 40:
		return open[src.Intn(len(open))]
	case p.fresh == 0:
		p.fresh = 1
	}
	return p.fresh
}

// someFrame is a frame that a peer may send, or, now and then, may not.
func (p *peer) someFrame(src *rand.Rand, server bool) []byte {
	id := p.someStream(src)
	end := src.Intn(4) == 0
	text := strings.Repeat("d", src.Intn(1<<src.Intn(12)))
	kind := src.Intn(20)
	if p.c.State(id) == api.SIdle {
		kind = 0
		if !server && src.Intn(50) > 0 {
			kind = 12
		}
	}
	switch kind {
	case 0, 1, 2:
		lists := [][]api.Header{response("200"), response("103"), response("304", "content-length", "3"), list("x", "y"), response("200", "content-length", "4"), list("X", "y")}
		if server {
			lists = [][]api.Header{request("POST"), request("POST", "a", text), request("POST", "content-length", "5"), list("x", "y"), list("X", "y")}
		}
		if p.c.State(id) == api.SIdle {
			p.fresh = max(p.fresh, id+2)
			lists = lists[:3]
		}
		h := p.head(id, lists[src.Intn(len(lists))], end)
		if src.Intn(4) > 0 {
			return p.bytesOf(h)
		}
		cut := src.Intn(len(h.Payload) + 1)
		return p.bytesOf(api.Frame{Type: api.FHeaders, Flags: flag(end), Stream: id, Payload: h.Payload[:cut]}, api.Frame{Type: api.FContinue, Flags: api.FlagDone, Stream: id, Payload: h.Payload[cut:]})
	case 3, 4, 5, 6, 7:
		if src.Intn(3) > 0 {
			text = text[:min(len(text), src.Intn(6))]
		}
		if src.Intn(20) == 0 {
			text = strings.Repeat("d", 16384)
		}
		return made(api.FData, flag(end), id, text)
	case 8:
		return made(api.FData, flag(end)|api.FlagPad, id, "\x03"+text+"\x00\x00\x00")
	case 9:
		return p.bytesOf(reset(id, uint32(src.Intn(12))))
	case 10:
		n := 1 + src.Intn(1<<src.Intn(20))
		if src.Intn(30) == 0 {
			n = api.MaxWindow
		}
		return p.bytesOf(grow(id*min(1, src.Intn(9)), n))
	case 11:
		return p.bytesOf(settings(api.Setting{ID: []int{1, 3, 4, 4, 5, 6}[src.Intn(6)], Value: uint32(16384 + src.Intn(1<<src.Intn(16)))}))
	case 12:
		return bytes.Repeat(p.bytesOf(ping("12345678")), src.Intn(1<<src.Intn(13)))
	case 13:
		if src.Intn(20) == 0 {
			return p.bytesOf(goaway(src.Intn(10), 0))
		}
		return p.bytesOf(api.Frame{Type: api.FPriority, Stream: id, Weight: 3})
	case 14:
		return made(99, src.Intn(256), id, text)
	case 15:
		return made(api.FPriority, 0, id, "abcde"[:5-min(1, src.Intn(4))])
	case 16:
		switch src.Intn(40) {
		case 0:
			return made(src.Intn(12), src.Intn(256), id, text)
		case 1:
			return made(api.FHeaders, api.FlagDone, id, "\xff")
		}
	}
	return made(api.FWindow, 0, id, string([]byte{0, 0, 0, byte(src.Intn(30))}))
}

// dice is a cheap source of numbers, of which two may be started alike.
type dice uint64

func (d *dice) Intn(n int) int {
	*d = *d*6364136223846793005 + 1442695040888963407
	return int(*d>>33) % n
}

// someCall does one thing with a connection, and tells what it answers.
func someCall(src dice, c *conn.Conn) string {
	id := 1 + 2*src.Intn(6)
	if open := c.Streams(); len(open) > 0 && src.Intn(8) > 0 {
		id = open[src.Intn(len(open))]
	}
	n := src.Intn(1 << src.Intn(12))
	end := src.Intn(3) == 0
	switch src.Intn(8) {
	case 0:
		id, e := c.Open(request([]string{"GET", "HEAD", "POST"}[src.Intn(3)], "a", strings.Repeat("b", n)), end)
		return "open " + strconv.Itoa(id) + " " + e.Error()
	case 1, 2:
		l := [][]api.Header{response("200", "a", "b"), response("100"), list("x", "y"), list("X", "y")}[src.Intn(4)]
		return "headers " + c.Headers(id, l, end).Error()
	case 3, 4:
		k, e := c.Data(id, make([]byte, n), end)
		return "data " + strconv.Itoa(k) + " " + e.Error()
	case 5:
		return "used " + c.Used(id, n).Error()
	case 6:
		if src.Intn(4) == 0 {
			return "reset " + c.Reset(id, src.Intn(9)).Error()
		}
		return "used " + c.Used(id, min(n, 3)).Error()
	}
	if src.Intn(30) == 0 {
		return "goaway " + c.Goaway(0).Error()
	}
	return "room " + strconv.Itoa(c.Room(id)) + " slots " + strconv.Itoa(c.Slots())
}

// facts are what a connection tells of itself.
func facts(c *conn.Conn) string {
	text := strconv.Itoa(c.Failed()) + strconv.FormatBool(c.Ready()) + " " + strconv.Itoa(c.Slots()) + " " + strconv.Itoa(c.Waiting()) + " " + strconv.Itoa(c.Held())
	for id := range 13 {
		text += " " + strconv.Itoa(c.State(id)) + ":" + strconv.Itoa(c.Room(id))
	}
	for _, id := range c.Streams() {
		text += " " + strconv.Itoa(id)
	}
	return text
}

// events are those that bytes lead to, handed in by cuts.
func events(t *testing.T, c *conn.Conn, b []byte, cut func(int) int) []string {
	var got []string
	for first := true; first || len(b) > 0; first = false {
		n := cut(len(b))
		over := c.Failed() != -1
		l, e := c.In(b[:n])
		if over != (e == api.ErrState) || !over && e != api.OK {
			t.Fatalf("In = %d, over: %v", e, over)
		}
		for _, ev := range l {
			got = append(got, told(ev))
		}
		b = b[n:]
	}
	return got
}

// P15.8, P5: an end that is given frames that may be and such that may not, and calls of all kinds: what it writes is a legal trace, and by whatever cuts bytes come, it tells and writes the same.
func TestCuts(t *testing.T) {
	faults, steps := map[string]int{}, 0
	for seed := range 500 {
		src := rand.New(rand.NewSource(int64(seed)))
		s := api.Setup{Server: seed%2 == 0, Streams: 1 + src.Intn(4), Window: []int{0, 5, 1000, 65535, 100000}[src.Intn(5)], Frame: 16384, List: 300 + src.Intn(5000), Table: 4096, Queue: 1 + src.Intn(2000)}
		p, twin, j := raw(t, s), mustNew(t, s), newJudge(t, s.Server)
		start := p.bytesOf(settings(api.Setting{ID: 4, Value: uint32(src.Intn(20))}), settings())
		if s.Server {
			start = append([]byte(preface), start...)
		}
		for i := range 120 {
			b := start
			for len(b) == 0 || src.Intn(3) == 0 {
				b = append(b, p.someFrame(src, s.Server)...)
			}
			if i == 3 {
				b = append(b, p.bytesOf(acknowledged())...)
			}
			start = nil
			j.got(b)
			whole := events(t, p.c, b, func(n int) int { return n })
			parts := events(t, twin, b, func(n int) int { return min(n, src.Intn(1<<src.Intn(10))) })
			if !slices.Equal(whole, parts) {
				t.Fatalf("seed %d: told %q, by parts %q", seed, whole, parts)
			}
			for range src.Intn(8) {
				call := dice(src.Uint64())
				one, two := someCall(call, p.c), someCall(call, twin)
				if one != two {
					t.Fatalf("seed %d: %s, by parts %s", seed, one, two)
				}
			}
			n := src.Intn(1 << src.Intn(16))
			if seed%5 == 0 {
				n = src.Intn(50) // what is written heaps up
			}
			one, two := p.c.Out(n), twin.Out(n)
			if !bytes.Equal(one, two) || len(one) > n {
				t.Fatalf("seed %d: Out(%d) = %x, by parts %x", seed, n, one, two)
			}
			j.wrote(one)
			if a, b := facts(p.c), facts(twin); a != b {
				t.Fatalf("seed %d: %s, by parts %s", seed, a, b)
			}
			if p.c.Failed() != -1 {
				faults[whole[len(whole)-1]]++
				j.wrote(p.c.Out(most))
				break
			}
			steps++
		}
	}
	if len(faults) < 6 || steps < 10000 {
		t.Errorf("the frames are too tame, or too wild: %v, %d steps", faults, steps)
	}
}

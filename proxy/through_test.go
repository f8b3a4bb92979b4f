package proxy_test

import (
	"bytes"
	"maps"
	"math/rand"
	"slices"
	"strconv"
	"strings"
	"testing"

	"aqueduct/api"
	"aqueduct/conn"
	"aqueduct/proxy"
)

// half is what goes one way of a request and its response.
type half struct {
	body  []byte
	tail  bool // trailers are behind it
	begun bool
	sent  int
	ended bool // all of it was handed to the sender's connection

	came     []byte
	cameTail bool
	over     bool // the receiver was told of the end
}

// trip is a request with its response.
type trip struct {
	up, down   half
	status     string
	lost       bool // somebody has given it up
	reached    int  // how many backends
	dispatched int  // how many statuses the client was told
}

// place is a stream of a peer.
type place struct {
	n, id int
}

// traffic is a proxy between clients and backends that send each other much.
type traffic struct {
	t      *testing.T
	src    *rand.Rand
	c      api.Config
	p      *proxy.Proxy
	peers  map[int]*conn.Conn
	trips  []*trip
	at     map[place]*trip
	wants  map[place]int // bytes that have come and were not used
	rough  bool          // streams are reset, connections close
	closed int

	windows []int // that peers may have
	bits    int   // of the length of bodies
}

func newTraffic(t *testing.T, seed int64) *traffic {
	src := rand.New(rand.NewSource(seed))
	pick := func(l ...int) int { return l[src.Intn(len(l))] }
	c := config()
	c.Backs, c.Conns, c.Streams = pick(1, 2, 3), pick(1, 2, 3), pick(1, 3, 20)
	k := &traffic{t: t, src: src, peers: map[int]*conn.Conn{}, at: map[place]*trip{}, wants: map[place]int{}, rough: seed%2 == 1}
	if src.Intn(2) == 0 {
		c.Buffer, c.Queue, k.windows, k.bits = pick(1, 40), pick(1, 40, 300), []int{1, 30}, 8
	} else { // more than the connections' windows goes through
		c.Buffer, c.Queue, k.windows, k.bits = pick(1000, 65535), pick(1000, 65536), []int{2000, 65535}, 16
	}
	p, e := proxy.New(c)
	if e != api.OK {
		t.Fatalf("New = %d", e)
	}
	k.c, k.p = c, p
	return k
}

func (k *traffic) isClient(n int) bool { return n < k.c.Conns }

// do lets the proxy take an event, and peers be told what it writes.
func (k *traffic) do(e api.In) {
	k.t.Helper()
	for _, o := range k.p.Do(e) {
		switch o.What {
		case api.OutBytes:
			k.tells(o.A, o.Bytes)
		case api.OutDial:
			k.do(api.In{What: api.InBack, A: o.A, B: 1})
			k.meets(k.c.Conns + o.A)
		case api.OutClose:
			k.t.Fatalf("at %v connection %d is closed", e, o.A)
		}
	}
	sum := 0
	for _, n := range k.p.Loads() {
		sum += n
	}
	if h := k.p.Held(); h > k.p.Most() || sum > k.p.Pairs() || !k.rough && sum != k.p.Pairs() {
		k.t.Fatalf("%d are held of %d, %d pairs, loads %v", h, k.p.Most(), k.p.Pairs(), k.p.Loads())
	}
}

func (k *traffic) meets(n int) {
	k.peers[n], _ = conn.New(api.Setup{Server: !k.isClient(n), Streams: 50, Window: k.windows[k.src.Intn(2)], Frame: api.MinFrame, List: api.MaxInt, Table: 4096, Queue: 3000})
}

func (k *traffic) greets() {
	k.t.Helper()
	k.do(api.In{What: api.InTick})
	for n := range k.c.Conns {
		k.do(api.In{What: api.InOpen, A: n})
		k.meets(n)
	}
	for range 4 {
		k.allTalk()
	}
}

// tells gives a peer what was written to it, which must be a legal trace (G2).
func (k *traffic) tells(n int, b []byte) {
	k.t.Helper()
	l, e := k.peers[n].In(b)
	if e != api.OK {
		k.t.Fatalf("In = %d", e)
	}
	for _, e := range l {
		k.hears(n, e)
	}
}

func (k *traffic) hears(n int, e api.Event) {
	k.t.Helper()
	if e.Kind == api.EvFault || e.Kind == api.EvBad {
		k.t.Fatalf("at %d: %s", n, told(e))
	}
	if e.Kind == api.EvHeaders && !k.isClient(n) {
		k.arrives(place{n, e.Stream}, e.List)
	}
	x := k.at[place{n, e.Stream}]
	if x == nil {
		return
	}
	h := &x.up
	if k.isClient(n) {
		h = &x.down
	}
	switch e.Kind {
	case api.EvHeaders:
		if k.isClient(n) {
			x.dispatched++
			x.status = e.List[0].Value
		}
	case api.EvData:
		h.came = append(h.came, e.Bytes...)
		k.wants[place{n, e.Stream}] += len(e.Bytes)
	case api.EvTrailers:
		h.cameTail = true
	case api.EvReset:
		x.lost = true
		return
	}
	h.over = h.over || e.End
}

// arrives finds the trip of a request that has come to a backend.
func (k *traffic) arrives(at place, l []api.Header) {
	k.t.Helper()
	number, e := strconv.Atoi(strings.TrimPrefix(l[2].Value, "/"))
	if e != nil || number >= len(k.trips) {
		k.t.Fatalf("a request that nobody sent: %v", l)
	}
	x := k.trips[number]
	if x.reached++; x.reached > 1 {
		k.t.Fatalf("request %d comes a second time", number) // G8
	}
	k.at[at] = x
}

func (k *traffic) newHalf() half {
	b := make([]byte, k.src.Intn(1<<k.src.Intn(k.bits)))
	k.src.Read(b)
	return half{body: b, tail: k.src.Intn(3) == 0}
}

// asks lets a client send a request, if it may.
func (k *traffic) asks(n int) {
	if k.peers[n].Slots() == 0 || len(k.trips) > 80 {
		return
	}
	x := &trip{up: k.newHalf(), down: k.newHalf()}
	x.up.begun = true
	x.up.ended = len(x.up.body) == 0 && !x.up.tail
	l := list(":method", "POST", ":scheme", "https", ":path", "/"+strconv.Itoa(len(k.trips)))
	if id, e := k.peers[n].Open(l, x.up.ended); e == api.OK {
		k.trips = append(k.trips, x)
		k.at[place{n, id}] = x
	}
}

// goesOn lets a peer send more of what it has to send on a stream.
func (k *traffic) goesOn(at place) {
	c, x := k.peers[at.n], k.at[at]
	h := &x.down
	if k.isClient(at.n) {
		h = &x.up
	}
	if c.State(at.id) != api.SOpen && c.State(at.id) != api.SRemote || h.ended {
		return
	}
	if !h.begun {
		h.begun = true
		h.ended = len(h.body) == 0 && !h.tail
		c.Headers(at.id, response("200"), h.ended)
		return
	}
	rest := h.body[h.sent:]
	n, e := c.Data(at.id, rest, !h.tail)
	if e != api.OK {
		k.t.Fatalf("Data = %d", e)
	}
	h.sent += n
	if n == len(rest) {
		h.ended = true
		if h.tail {
			c.Headers(at.id, list("sum", "1"), true)
		}
	}
}

// uses lets a peer be done with some of what has come on a stream, or all.
func (k *traffic) uses(at place, all bool) {
	n := k.wants[at]
	if !all {
		n = k.src.Intn(n + 1)
	}
	if k.peers[at.n].Used(at.id, n) == api.OK {
		k.wants[at] -= n
	}
}

// places are those of a peer's streams that are of a trip, rising.
func (k *traffic) places(n int) []place {
	var l []place
	for _, at := range slices.SortedFunc(maps.Keys(k.at), func(x, y place) int { return (x.n-y.n)<<32 + x.id - y.id }) {
		if at.n == n {
			l = append(l, at)
		}
	}
	return l
}

func (k *traffic) act() {
	k.t.Helper()
	n := k.src.Intn(k.c.Conns + k.c.Backs)
	if k.peers[n] == nil {
		return
	}
	switch k.src.Intn(8) {
	case 0:
		if k.isClient(n) {
			k.asks(n)
		}
	case 1, 2:
		for _, at := range k.places(n) {
			if k.src.Intn(3) > 0 {
				k.goesOn(at)
			}
			k.uses(at, false)
		}
	case 3, 4:
		k.do(api.In{What: api.InBytes, A: n, Draw: k.src.Intn(5), Bytes: k.peers[n].Out(k.some())})
	case 5, 6:
		k.do(api.In{What: api.InBudget, A: n, B: k.some()})
	case 7:
		if k.rough && k.src.Intn(10) == 0 {
			k.givesUp(n)
		}
	}
}

func (k *traffic) some() int { return k.src.Intn(1 << k.src.Intn(16)) }

// givesUp lets a peer reset a stream, or close its connection.
func (k *traffic) givesUp(n int) {
	k.t.Helper()
	if k.src.Intn(4) > 0 {
		for _, id := range k.peers[n].Streams() {
			k.peers[n].Reset(id, k.src.Intn(9))
			if x := k.at[place{n, id}]; x != nil {
				x.lost = true
			}
			return
		}
		return
	}
	for at, x := range k.at {
		if at.n == n {
			x.lost = true
			delete(k.at, at)
			delete(k.wants, at)
		}
	}
	k.do(api.In{What: api.InClose, A: n})
	delete(k.peers, n)
	k.closed++
	if k.isClient(n) {
		k.do(api.In{What: api.InOpen, A: n})
		k.meets(n)
		return
	}
	for !k.p.Open(n) {
		k.do(api.In{What: api.InTick})
	}
}

func (k *traffic) allTalk() {
	k.t.Helper()
	for _, n := range slices.Sorted(maps.Keys(k.peers)) {
		for _, at := range k.places(n) {
			k.goesOn(at)
			k.uses(at, true)
		}
		k.do(api.In{What: api.InBytes, A: n, Bytes: k.peers[n].Out(most)})
		k.do(api.In{What: api.InBudget, A: n, B: most})
	}
}

// finish lets all be done that is left.
func (k *traffic) finish() {
	k.t.Helper()
	for round := 0; round < 20000 && (round < 10 || k.p.Pairs() > 0 || k.waiting() > 0); round++ {
		k.allTalk()
	}
	if k.p.Pairs() > 0 {
		k.t.Fatalf("%d pairs are left", k.p.Pairs())
	}
	if most := len(k.peers) * 2 * 4096; k.p.Held() > most { // the tables alone
		k.t.Fatalf("%d are held", k.p.Held())
	}
}

func (k *traffic) waiting() int {
	n := 0
	for _, c := range k.peers {
		n += c.Waiting()
	}
	return n
}

// arrived holds what has come against what was sent, and tells how many bytes these are.
func (k *traffic) arrived(h *half, whole bool) int {
	k.t.Helper()
	if !bytes.HasPrefix(h.body, h.came) {
		k.t.Fatalf("%d bytes came that were not sent so", len(h.came))
	}
	if whole && (len(h.came) != len(h.body) || !h.over || h.cameTail != h.tail || !h.ended) {
		k.t.Fatalf("%d of %d bytes came, the end %v, trailers %v of %v", len(h.came), len(h.body), h.over, h.cameTail, h.tail)
	}
	return len(h.came)
}

// P22.4, G1, G2, G4, G8: data go through unchanged, and all of them, where nobody gives up; each request to one backend.
func TestThrough(t *testing.T) {
	total, refused, whole, closed := 0, 0, 0, 0
	for seed := range 50 {
		k := newTraffic(t, int64(seed))
		k.greets()
		for range 3000 {
			k.act()
		}
		k.finish()
		for n, x := range k.trips {
			if x.dispatched > 1 || !x.lost && x.dispatched != 1 {
				t.Fatalf("seed %d: request %d is answered %d times", seed, n, x.dispatched)
			}
			if x.status != "200" {
				if !x.lost && x.status != "503" && x.status != "502" {
					t.Fatalf("seed %d: request %d is answered %q", seed, n, x.status)
				}
				refused++
				continue
			}
			total += k.arrived(&x.up, !x.lost) + k.arrived(&x.down, !x.lost)
			if !x.lost {
				whole++
			}
		}
		closed += k.closed
	}
	if total < 1<<21 || whole < 600 || closed < 100 {
		t.Errorf("too tame: %d bytes, %d whole trips, %d refused, %d connections closed", total, whole, refused, closed)
	}
	t.Log(total, whole, refused, closed)
}

// G5: a stream whose receiver gives no credit holds no other one up.
func TestNobodyWaits(t *testing.T) {
	w := begin(t, config())
	only(w, 0)
	w.asks(0, 0, true)
	w.asks(0, 0, true)
	w.runs()
	body := strings.Repeat("b", 30000)
	for _, id := range []int{1, 3} {
		w.heads(2, id, response("200"), false)
		w.data(2, id, body, true)
	}
	got := map[int]int{}
	for range 2000 {
		w.sends(2)
		w.takes(2)
		for _, o := range w.p.Do(api.In{What: api.InBudget, A: 0, B: 5000}) {
			l, _ := w.peers[0].In(o.Bytes)
			for _, e := range l {
				got[e.Stream] += len(e.Bytes)
				if e.Stream == 3 {
					w.peers[0].Used(3, len(e.Bytes))
				}
			}
		}
		w.sends(0)
		w.counts()
	}
	if got[1] != 1000 || got[3] != 30000 {
		t.Errorf("%d and %d bytes came", got[1], got[3])
	}
	w.is(1, 1, 0)
	if h := w.p.Held(); h < 300 || h > 300+100+2*4096 {
		t.Errorf("%d are held", h)
	}
}

// P5: the same events lead to the same answers.
func TestSame(t *testing.T) {
	run := func() []byte {
		var all []byte
		c := config()
		c.Streams = 20
		w := begin(t, c)
		for range 15 {
			w.asks(0, 1, false, "x", "y")
			w.asks(1, 0, true, "x", "z")
		}
		w.runs()
		for n := range 2 {
			for _, id := range w.peers[2+n].Streams() {
				w.heads(2+n, id, response("200"), false)
				w.data(2+n, id, strings.Repeat("d", 90), id%3 == 0)
			}
			w.sends(2 + n)
		}
		clear(w.raw)
		w.gives(0, garbage)
		w.closes(2)
		for n := range 4 {
			w.do(api.In{What: api.InBudget, A: n, B: most})
			all = append(all, w.raw[n]...)
		}
		return all
	}
	first := run()
	if len(first) < 500 {
		t.Fatalf("%d bytes", len(first))
	}
	for range 20 {
		if !bytes.Equal(run(), first) {
			t.Fatal("it answers otherwise")
		}
	}
}

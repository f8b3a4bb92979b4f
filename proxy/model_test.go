package proxy_test

import (
	"bytes"
	"maps"
	"math/rand"
	"slices"
	"strings"
	"testing"

	"aqueduct/api"
	"aqueduct/conn"
	"aqueduct/proxy"
)

// storm is a proxy and a plain one, which take the same events.
type storm struct {
	t     *testing.T
	src   *rand.Rand
	c     api.Config
	p     *proxy.Proxy
	m     *plain
	peers map[int]*conn.Conn
	wild  bool // peers do what they may not
}

func (k *storm) pick(l ...int) int { return l[k.src.Intn(len(l))] }

// some is a number, small or great.
func (k *storm) some(bits int) int { return k.src.Intn(1 << k.src.Intn(bits)) }

func (k *storm) seldom(n int) bool { return k.src.Intn(n) == 0 }

func newStorm(t *testing.T, seed int64) *storm {
	k := &storm{t: t, src: rand.New(rand.NewSource(seed)), peers: map[int]*conn.Conn{}}
	k.c = api.Config{
		Backs:   k.pick(0, 1, 1, 2, 2, 2, 3, 3),
		Conns:   k.pick(1, 2, 3),
		Streams: k.pick(1, 2, 6, 20),
		Buffer:  k.pick(1, 20, 100, 5000, 65535),
		Queue:   k.pick(1, 20, 300, 65536),
		Health:  api.Health{Fail: k.pick(1, 2), Rise: k.pick(1, 2), Hold: k.pick(0, 1, 3)},
		Retry:   k.pick(1, 2),
		Most:    k.pick(2, 4),
		List:    k.pick(200, 1000, 65536, 65536),
	}
	k.wild = k.src.Intn(2) == 0
	p, e := proxy.New(k.c)
	if e != api.OK {
		t.Fatalf("New = %d", e)
	}
	k.p, k.m = p, newPlain(k.c)
	k.greets()
	return k
}

// greets lets all connections open.
func (k *storm) greets() {
	k.both(api.In{What: api.InTick})
	for n := range k.c.Conns {
		k.both(api.In{What: api.InOpen, A: n})
	}
	for n := range k.c.Backs {
		k.both(api.In{What: api.InBack, A: n, B: 1})
	}
	for range 3 {
		for n := range k.m.conns {
			k.both(api.In{What: api.InBytes, A: n, Bytes: k.peers[n].Out(most)})
			k.both(api.In{What: api.InBudget, A: n, B: most})
		}
	}
}

// both lets both proxies take an event, and holds what they do against each other.
func (k *storm) both(e api.In) {
	k.t.Helper()
	conns := slices.Clone(k.m.conns)
	piece := bytes.Clone(e.Bytes)
	x := k.p.Do(api.In{What: e.What, A: e.A, B: e.B, Draw: e.Draw, Bytes: piece})
	clear(piece)
	y := k.m.Do(e)
	if !slices.EqualFunc(x, y, sameOut) {
		k.t.Fatalf("at %v it does %v, the plain proxy %v", e, x, y)
	}
	for n, c := range k.m.conns {
		if c == nil {
			delete(k.peers, n)
		} else if c != conns[n] {
			k.meets(n)
		}
	}
	for _, o := range y {
		if peer := k.peers[o.A]; o.What == api.OutBytes && peer != nil {
			k.tells(o.A, peer, o.Bytes)
		}
	}
	for _, o := range x {
		clear(o.Bytes)
	}
	k.same()
}

func sameOut(x, y api.Out) bool {
	return x.What == y.What && x.A == y.A && bytes.Equal(x.Bytes, y.Bytes)
}

func (k *storm) meets(n int) {
	s := api.Setup{Server: n >= k.c.Conns, Streams: k.pick(1, 3, 9, 100), Window: k.pick(1, 50, 65535), Frame: api.MinFrame, List: api.MaxInt, Table: k.pick(0, 100, 4096), Queue: 1 << 12}
	k.peers[n], _ = conn.New(s)
}

// tells gives a peer what was written to it. A peer that does as it should is given nothing that it faults (G2).
func (k *storm) tells(n int, peer *conn.Conn, b []byte) {
	k.t.Helper()
	l, _ := peer.In(b)
	for _, e := range l {
		if !k.wild && (e.Kind == api.EvFault || e.Kind == api.EvBad) {
			k.t.Fatalf("at %d: %s", n, told(e))
		}
	}
}

// same holds what they tell of themselves against each other.
func (k *storm) same() {
	k.t.Helper()
	if k.p.Pairs() != len(k.m.pairs) || !slices.Equal(k.p.Loads(), k.m.loads()) || k.p.Stopping() != k.m.stopping {
		k.t.Fatalf("%d pairs, loads %v, the plain proxy has %d, %v", k.p.Pairs(), k.p.Loads(), len(k.m.pairs), k.m.loads())
	}
	if h := k.p.Held(); h != k.m.held() || h > k.p.Most() {
		k.t.Fatalf("%d are held, the plain proxy has %d, of %d", h, k.m.held(), k.p.Most())
	}
	for n := range k.m.conns {
		if k.p.Open(n) != k.m.isOpen(n) {
			k.t.Fatalf("Open(%d) = %v", n, k.p.Open(n))
		}
	}
	for n, b := range k.m.pool.Backs() { // P22.4
		if k.p.Loads()[n] != b.Load {
			k.t.Fatalf("loads %v, the pool has %v", k.p.Loads(), k.m.pool.Backs())
		}
	}
}

// anyPeer answers the number of a peer; false, if there is none.
func (k *storm) anyPeer() (int, bool) {
	l := slices.Sorted(maps.Keys(k.peers))
	if len(l) == 0 {
		return 0, false
	}
	return l[k.src.Intn(len(l))], true
}

// acts lets a peer do something.
func (k *storm) acts() {
	n, there := k.anyPeer()
	if !there {
		return
	}
	c := k.peers[n]
	if n < k.c.Conns && k.seldom(2) {
		k.requests(c)
		return
	}
	l := c.Streams()
	if len(l) == 0 {
		return
	}
	id, text := l[k.src.Intn(len(l))], strings.Repeat("s", k.some(10))
	switch k.src.Intn(12) {
	case 0, 1, 2:
		status := []string{"200", "204", "103", "500"}[k.src.Intn(4)]
		c.Headers(id, response(status, "x", text), k.seldom(3))
	case 3, 4, 5, 6:
		c.Data(id, []byte(text), k.seldom(3))
	case 7:
		c.Headers(id, list("x", "y"), true)
	case 8:
		if k.seldom(3) {
			c.Reset(id, k.src.Intn(10))
		}
	case 9, 10, 11:
		c.Used(id, k.some(8))
	}
}

func (k *storm) requests(c *conn.Conn) {
	if c.Slots() == 0 {
		return
	}
	texts := []string{"x", strings.Repeat("v", k.some(8))}
	if k.seldom(10) {
		long := strings.Repeat("c", 9000)
		texts = []string{"cookie", long, "cookie", long}
	}
	if k.seldom(20) {
		texts = slices.Repeat([]string{"a", ""}, api.MaxHeaders-k.pick(3, 4))
	}
	c.Open(request(texts...), k.seldom(2))
}

// frames is what no end would write, or what is not often written.
func (k *storm) frames() []byte {
	id := 1 + k.src.Intn(9)
	return bytesOf(k.t, [][]api.Frame{
		{settingsOf(k.src.Intn(4))},
		{{Type: api.FGoaway, Last: k.src.Intn(9)}},
		{{Type: api.FGoaway, Last: api.MaxID}},
		{{Type: api.FPing, Payload: []byte("12345678")}},
		{{Type: api.FWindow, Stream: id, Inc: 1<<31 - 1}},
		{{Type: api.FReset, Stream: id, Code: api.CRefused}},
		{get(id, 0), {Type: api.FReset, Stream: id}},
		{dataOf(id, 5, k.src.Intn(2))},
		{{Type: api.FHeaders, Flags: api.FlagDone | k.src.Intn(2), Stream: id, Payload: []byte{0x88}}},
		{get(id, k.src.Intn(2))},
		{get(id, 0), dataOf(id, 5, 1)},
	}[k.src.Intn(11)]...)
}

// bytes gives both what a peer has written, or something else.
func (k *storm) bytes() {
	k.t.Helper()
	n, there := k.anyPeer()
	if !there {
		return
	}
	b := k.peers[n].Out(k.some(14))
	switch {
	case k.wild && k.seldom(150):
		b = garbage
	case k.wild && k.seldom(30):
		b = k.frames()
	case k.wild && k.seldom(150) && len(b) > 0:
		b[k.src.Intn(len(b))] ^= 1
	}
	k.both(api.In{What: api.InBytes, A: n, Draw: k.src.Intn(9) - 4, Bytes: b})
}

// opens lets what is closed open.
func (k *storm) opens() {
	k.t.Helper()
	if k.src.Intn(2) == 0 {
		k.both(api.In{What: api.InOpen, A: k.src.Intn(k.c.Conns)})
	} else {
		k.both(api.In{What: api.InBack, A: k.src.Intn(k.c.Backs + 1), B: k.pick(0, 1, 1, 1)})
	}
}

func (k *storm) step() {
	k.t.Helper()
	switch n := k.src.Intn(100); {
	case n < 34:
		k.acts()
	case n < 60:
		k.bytes()
	case n < 78:
		if n, there := k.anyPeer(); there {
			k.both(api.In{What: api.InBudget, A: n, B: k.some(14)})
		}
	case n < 83:
		k.both(api.In{What: api.InTick})
	case n < 95:
		k.opens()
	case n == 95:
		k.both(api.In{What: api.InProbe, A: k.src.Intn(k.c.Backs + 1), B: k.pick(0, 1, 1, 1, 1)})
	case n == 96 && k.seldom(4):
		if n, there := k.anyPeer(); there {
			k.both(api.In{What: api.InClose, A: n})
		}
	case n == 97 && k.seldom(4):
		if n, there := k.anyPeer(); there && n >= k.c.Conns {
			k.peers[n].Goaway(api.CNone)
		}
	case n == 98 && k.seldom(20):
		k.both(api.In{What: api.InStop})
	case n == 99:
		k.both(api.In{What: k.src.Intn(10) - 1, A: k.src.Intn(12) - 3, B: k.src.Intn(9) - 3})
	}
}

// P22.2, P22.3, P1, P4: random rows of all that can come, beside a plain proxy.
func TestModel(t *testing.T) {
	tally := map[string]int{}
	for seed := range 500 {
		k := newStorm(t, int64(seed))
		for range 900 {
			k.step()
		}
		for what, n := range k.m.tally {
			tally[what] += n
		}
		if t.Failed() {
			t.Fatalf("seed %d", seed)
		}
	}
	for _, what := range []string{"pairs", "refused", "bad request", "refused by the back", "unpaired", "drained", "replaced", "gone", "gone while dialled", "fault in front", "fault at back", "left alone"} {
		if tally[what] < 20 {
			t.Errorf("too tame: %q came to pass %d times", what, tally[what])
		}
	}
	t.Log(tally)
}

package proxy_test

import (
	"math"
	"testing"

	"aqueduct/api"
	"aqueduct/proxy"
)

// P22.1: each part of a configuration, at its bounds and one past them.
func TestValid(t *testing.T) {
	cases := []struct {
		what string
		set  func(c *api.Config, n int)
		good []int
		bad  []int
	}{
		{"Backs", func(c *api.Config, n int) { c.Backs = n }, []int{0, 1, 15, 16}, []int{-1, 17, math.MinInt, math.MaxInt}},
		{"Conns", func(c *api.Config, n int) { c.Conns = n }, []int{1, 2, 63, 64}, []int{0, 65, -1, math.MinInt, math.MaxInt}},
		{"Streams", func(c *api.Config, n int) { c.Streams = n }, []int{1, 2, 99, 100}, []int{0, 101, -1, math.MinInt, math.MaxInt}},
		{"Buffer", func(c *api.Config, n int) { c.Buffer = n }, []int{1, 2, 65534, 65535}, []int{0, 65536, -1, math.MinInt, math.MaxInt}},
		{"Queue", func(c *api.Config, n int) { c.Queue = n }, []int{1, 2, 65535, 65536}, []int{0, 65537, -1, math.MinInt, math.MaxInt}},
		{"List", func(c *api.Config, n int) { c.List = n }, []int{0, 1, 65535, 65536}, []int{-1, 65537, math.MinInt, math.MaxInt}},
		{"Fail", func(c *api.Config, n int) { c.Health.Fail = n }, []int{1, 2, 999, 1000}, []int{0, 1001, -1, math.MinInt, math.MaxInt}},
		{"Rise", func(c *api.Config, n int) { c.Health.Rise = n }, []int{1, 2, 999, 1000}, []int{0, 1001, -1, math.MinInt, math.MaxInt}},
		{"Hold", func(c *api.Config, n int) { c.Health.Hold = n }, []int{0, 1, 1 << 30}, []int{-1, 1<<30 + 1, math.MinInt, math.MaxInt}},
		{"Retry", func(c *api.Config, n int) { c.Retry = n }, []int{1, 2, 7, 8}, []int{0, 9, -1, math.MinInt, math.MaxInt}},
		{"Most", func(c *api.Config, n int) { c.Most = n }, []int{1, 8, 1 << 30}, []int{0, 1<<30 + 1, -1, math.MinInt, math.MaxInt}},
	}
	for _, x := range cases {
		for _, n := range x.good {
			c := config()
			x.set(&c, n)
			validIs(t, c, true)
		}
		for _, n := range x.bad {
			c := config()
			x.set(&c, n)
			validIs(t, c, false)
			c.Backs = 0 // without backends it is looked at, too
			x.set(&c, n)
			validIs(t, c, false)
		}
	}
	validIs(t, api.Config{}, false)
	least := api.Config{Conns: 1, Streams: 1, Buffer: 1, Queue: 1, Health: api.Health{Fail: 1, Rise: 1}, Retry: 1, Most: 1}
	validIs(t, least, true)
	greatest := api.Config{Backs: 16, Conns: 64, Streams: 100, Buffer: 65535, Queue: 65536, Health: api.Health{Fail: 1000, Rise: 1000, Hold: 1 << 30}, Retry: 1 << 30, Most: 1 << 30, List: 65536}
	validIs(t, greatest, true)
}

// validIs: Valid answers so, and New does what is said there.
func validIs(t *testing.T, c api.Config, want bool) {
	t.Helper()
	if got := proxy.Valid(c); got != want {
		t.Errorf("Valid(%+v) = %v", c, got)
	}
	p, e := proxy.New(c)
	if want && (p == nil || e != api.OK) || !want && (p != nil || e != api.ErrArg) {
		t.Errorf("New(%+v) = %v, %d", c, p, e)
	}
}

// P22.3: what a proxy tells of itself that has only been made.
func TestNew(t *testing.T) {
	w := newWorld(t, config())
	w.is(0, 0, 0)
	w.open()
	if w.p.Held() != 0 || w.p.Stopping() {
		t.Errorf("Held, Stopping = %d, %v", w.p.Held(), w.p.Stopping())
	}
	c := config()
	c.Backs = 0
	if l := newWorld(t, c).p.Loads(); len(l) != 0 {
		t.Errorf("Loads = %v", l)
	}
}

// P22.3: Most, whose parts are unlike here.
func TestMost(t *testing.T) {
	cases := []struct {
		conns, backs, streams, buffer, queue, list, want int
	}{
		{1, 0, 1, 1, 1, 0, 524288 + 1001 + 2*65536},
		{1, 1, 1, 1, 1, 0, 2*(524288+1001) + 2*65536},
		{3, 5, 7, 11, 13, 17, 8*(524288+21*(13+34+1000)) + 42*(11+65535)},
		{2, 2, 3, 100, 300, 4000, 4*(524288+6*9300) + 12*65635},
		{64, 16, 100, 65535, 65536, 65536, 80*(524288+6400*(65536+131072+1000)) + 12800*131070},
	}
	for _, x := range cases {
		c := config()
		c.Conns, c.Backs, c.Streams, c.Buffer, c.Queue, c.List = x.conns, x.backs, x.streams, x.buffer, x.queue, x.list
		if got := newWorld(t, c).p.Most(); got != x.want {
			t.Errorf("Most of %+v = %d, want %d", c, got, x.want)
		}
	}
}

// kinds are those of all events, and some that are none.
var kinds = []int{api.InOpen, api.InBytes, api.InClose, api.InBudget, api.InTick, api.InProbe, api.InBack, api.InStop, -1, 8, math.MinInt, math.MaxInt}

// P22.3: a nil proxy, and one that no call made.
func TestZero(t *testing.T) {
	for _, p := range []*proxy.Proxy{nil, {}} {
		for _, what := range kinds {
			for _, n := range []int{-1, 0, 1} {
				if l := p.Do(api.In{What: what, A: n, B: 1, Draw: 1, Bytes: []byte("PRI")}); len(l) != 0 {
					t.Errorf("Do(%d, %d) = %v", what, n, l)
				}
				if p.Open(n) {
					t.Errorf("Open(%d)", n)
				}
			}
		}
		if p.Pairs() != 0 || len(p.Loads()) != 0 || p.Held() != 0 || p.Most() != 0 || p.Stopping() {
			t.Errorf("%d, %v, %d, %d, %v", p.Pairs(), p.Loads(), p.Held(), p.Most(), p.Stopping())
		}
	}
}

// P1: no event panics, whatever is in it. Of kinds that there are not, nothing is done.
func TestAnyEvent(t *testing.T) {
	w := begin(t, config())
	w.asks(0, 0, false)
	numbers := []int{math.MinInt, -1, 0, 1, 2, 3, 4, 5, math.MaxInt}
	for _, what := range kinds {
		for _, a := range numbers {
			for _, b := range numbers {
				l := w.p.Do(api.In{What: what, A: a, B: b, Draw: b})
				if (what < api.InOpen || what > api.InStop) && len(l) > 0 {
					t.Errorf("Do(%d, %d, %d) = %v", what, a, b, l)
				}
				w.counts()
				w.p.Open(a)
			}
		}
	}
}

// P22.3: Held is that of all connections that are open, and of all pairs.
func TestHeld(t *testing.T) {
	w := newWorld(t, config())
	held := func() int { return w.p.Held() }
	w.joins(0)
	one := held()
	if one < 9 {
		t.Fatalf("a client's connection holds %d", one)
	}
	w.joins(1)
	if held() != 2*one {
		t.Fatalf("two of them hold %d, not %d", held(), 2*one)
	}
	w.ticks("dial 0", "dial 1")
	w.backs(1)
	back := held() - 2*one
	if back < 24+9 {
		t.Fatalf("a backend's connection holds %d", back)
	}
	w.closes(0)
	if held() != one+back {
		t.Fatalf("%d are held, not %d", held(), one+back)
	}
	w.closes(w.at(1))
	if held() != one {
		t.Fatalf("%d are held, not %d", held(), one)
	}
	w.closes(1)
	if held() != 0 {
		t.Fatalf("%d are held", held())
	}
}

// P22.3: what pairs hold counts, each way.
func TestHeldByPairs(t *testing.T) {
	c := config()
	c.Queue = 10
	w := begin(t, c)
	w.asks(0, 0, false)
	w.runs()
	w.heads(w.at(0), 1, response("200"), false)
	w.runs()
	w.forgets()
	before := w.p.Held()
	w.data(0, 1, "012345678901234567890123456789", false)
	w.sends(0)
	if n := w.p.Held() - before; n != 30 {
		t.Fatalf("%d more are held, not 30", n)
	}
	w.data(w.at(0), 1, "01234567890123456789", false)
	w.sends(w.at(0))
	if n := w.p.Held() - before; n != 50 {
		t.Fatalf("%d more are held, not 50", n)
	}
	w.takes(0)
	w.hears(0, "data 1 0123456789")
	if n := w.p.Held() - before; n != 40 {
		t.Fatalf("%d more are held, not 40", n)
	}
	w.runs()
	w.hears(0, "data 1 0123456789")
	w.hears(w.at(0), "data 1 0123456789", "data 1 0123456789", "data 1 0123456789")
	if n := w.p.Held() - before; n != 0 {
		t.Fatalf("%d more are held", n)
	}
}

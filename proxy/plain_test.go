package proxy_test

import (
	"slices"

	"aqueduct/api"
	"aqueduct/conn"
	"aqueduct/pick"
	"aqueduct/pool"
	"aqueduct/relay"
	"aqueduct/rewrite"
)

// plainPair is a pair of a plain proxy.
type plainPair struct {
	*relay.Pair
	client, stream int
	back           *conn.Conn
	backend        int
	counts         bool
}

// plain is a proxy done word by word as the chapter has it: all is looked for where it lies, in lists that are kept in order.
type plain struct {
	c        api.Config
	pool     *pool.Pool
	conns    []*conn.Conn
	pairs    []*plainPair
	drains   []bool // the backend's connection has begun to drain, and has not failed
	stopping bool
	tally    map[string]int // what has come to pass
}

func newPlain(c api.Config) *plain {
	p, _ := pool.New(c.Backs, c.Health, c.Retry, c.Most)
	return &plain{c: c, pool: p, conns: make([]*conn.Conn, c.Conns+c.Backs), drains: make([]bool, c.Backs), tally: map[string]int{}}
}

func (m *plain) made(server bool, streams int) *conn.Conn {
	c, _ := conn.New(api.Setup{Server: server, Streams: streams, Window: m.c.Buffer, Frame: api.MinFrame, List: m.c.List, Table: 4096, Queue: m.c.Queue})
	return c
}

func (m *plain) isOpen(n int) bool {
	return n >= 0 && n < len(m.conns) && m.conns[n] != nil
}

func (m *plain) Do(e api.In) []api.Out {
	var out []api.Out
	close := func(n int) { out = append(out, api.Out{What: api.OutClose, A: n}) }
	switch e.What {
	case api.InOpen:
		if e.A >= m.c.Conns+m.c.Backs {
			close(e.A)
		} else if e.A >= 0 && e.A < m.c.Conns && !m.isOpen(e.A) {
			if m.stopping {
				close(e.A)
			} else {
				m.conns[e.A] = m.made(true, m.c.Streams)
			}
		}
	case api.InBytes:
		if m.isOpen(e.A) {
			l, _ := m.conns[e.A].In(e.Bytes)
			for _, x := range l {
				if e.A < m.c.Conns {
					m.front(e.A, x, e.Draw)
				} else {
					m.back(e.A-m.c.Conns, x)
				}
			}
		}
	case api.InClose:
		if m.isOpen(e.A) {
			m.gone(e.A)
		}
	case api.InBudget:
		if m.isOpen(e.A) {
			c := m.conns[e.A]
			if b := c.Out(e.B); len(b) > 0 {
				out = append(out, api.Out{What: api.OutBytes, A: e.A, Bytes: b})
			}
			if c.Failed() >= 0 && c.Waiting() == 0 {
				close(e.A)
				m.gone(e.A)
			}
		}
	case api.InTick:
		for _, n := range m.pool.Tick() {
			out = append(out, api.Out{What: api.OutDial, A: n})
		}
	case api.InProbe:
		m.pool.Probe(e.A, e.B == 1)
	case api.InBack:
		m.dialled(e.A, e.B)
	case api.InStop:
		m.stopping = true
		for n := range m.c.Conns {
			m.conns[n].Goaway(api.CNone)
		}
	}
	m.behind()
	for n := range m.c.Backs {
		if m.drains[n] && m.pool.State(n) == 0 {
			m.drains[n] = false
			m.conns[m.c.Conns+n] = nil
			close(m.c.Conns + n)
			m.tally["drained"]++
		}
	}
	return out
}

func (m *plain) dialled(n int, b int) {
	if n < 0 || n >= m.c.Backs {
		return
	}
	if b == 1 {
		if m.pool.Opened(n) == api.OK {
			if m.isOpen(m.c.Conns + n) {
				m.tally["replaced"]++
			}
			m.conns[m.c.Conns+n] = m.made(false, 0)
		}
	} else if m.pool.State(n) == 1 {
		m.pool.Failed(n)
	}
}

func (m *plain) gone(n int) {
	c := m.conns[n]
	for _, x := range m.pairs {
		if n < m.c.Conns && x.client == n {
			x.Lost(true)
		}
		if n >= m.c.Conns && x.back == c {
			x.Lost(false)
			x.counts = false
		}
	}
	m.conns[n] = nil
	if n >= m.c.Conns {
		if m.pool.State(n-m.c.Conns) == 1 {
			m.tally["gone while dialled"]++
		}
		m.pool.Failed(n - m.c.Conns)
		m.drains[n-m.c.Conns] = false
	}
	m.tally["gone"]++
}

func (m *plain) front(n int, e api.Event, draw int) {
	var x *plainPair
	for _, y := range m.pairs {
		if y.client == n && y.stream == e.Stream {
			x = y
		}
	}
	switch {
	case e.Kind == api.EvFault:
		for _, x := range m.pairs {
			if x.client == n {
				x.Lost(true)
			}
		}
		m.tally["fault in front"]++
	case x != nil:
		x.Front(e)
	case e.Kind == api.EvHeaders:
		if m.conns[n].State(e.Stream) != api.SClosed {
			m.request(n, e, draw)
		}
	case e.Kind == api.EvData:
		m.conns[n].Used(e.Stream, len(e.Bytes))
		m.tally["unpaired"]++
	}
}

func (m *plain) refuse(n int, stream int, status int) {
	c := m.conns[n]
	c.Headers(stream, rewrite.Plain(status), true)
	if c.State(stream) != api.SClosed {
		c.Reset(stream, api.CNone)
	}
	m.tally["refused"]++
}

func (m *plain) request(n int, e api.Event, draw int) {
	l := m.pool.Backs()
	for i := range l {
		l[i].Slots = min(l[i].Slots, m.conns[m.c.Conns+i].Slots())
	}
	i, none := pick.Choose(l, draw)
	if none != api.OK {
		m.refuse(n, e.Stream, 503)
		return
	}
	list, bad := rewrite.Request(e.List, "aqueduct")
	if bad != api.OK {
		m.refuse(n, e.Stream, 400)
		m.tally["bad request"]++
		return
	}
	b := m.conns[m.c.Conns+i]
	id, bad := b.Open(list, e.End)
	if bad != api.OK {
		m.refuse(n, e.Stream, 503)
		m.tally["refused by the back"]++
		return
	}
	m.pool.Take(i)
	x, _ := relay.New(m.conns[n], e.Stream, b, id, max(m.c.Buffer, api.Window))
	m.pairs = append(m.pairs, &plainPair{x, n, e.Stream, b, i, true})
	slices.SortFunc(m.pairs, func(x, y *plainPair) int { return (x.client-y.client)<<32 + x.stream - y.stream })
	m.tally["pairs"]++
}

func (m *plain) back(n int, e api.Event) {
	c := m.conns[m.c.Conns+n]
	var x *plainPair
	for _, y := range m.pairs {
		_, id := y.Streams()
		if y.back == c && id == e.Stream {
			x = y
		}
	}
	switch {
	case e.Kind == api.EvOpen:
		m.pool.Limit(n, c.Slots())
	case e.Kind == api.EvGoaway:
		m.drains[n] = m.pool.Drain(n) == api.OK || m.drains[n]
	case e.Kind == api.EvFault:
		for _, x := range m.pairs {
			if x.back == c {
				x.Lost(false)
				x.counts = false
			}
		}
		m.pool.Failed(n)
		m.drains[n] = false
		m.tally["fault at back"]++
	case x != nil:
		x.Back(e)
	case e.Kind == api.EvData:
		c.Used(e.Stream, len(e.Bytes))
	}
}

func (m *plain) behind() {
	for _, x := range m.pairs {
		x.Move()
	}
	for _, x := range m.pairs {
		if x.Over() && x.counts {
			m.pool.Put(x.backend)
		} else if x.Over() {
			m.tally["left alone"]++
		}
	}
	m.pairs = slices.DeleteFunc(m.pairs, func(x *plainPair) bool { return x.Over() })
}

func (m *plain) loads() []int {
	l := make([]int, m.c.Backs)
	for _, x := range m.pairs {
		if x.counts {
			l[x.backend]++
		}
	}
	return l
}

func (m *plain) held() int {
	n := 0
	for _, c := range m.conns {
		n += c.Held()
	}
	for _, x := range m.pairs {
		n += x.Held()
	}
	return n
}

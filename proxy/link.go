package proxy

import (
	"aqueduct/api"
	"aqueduct/conn"
	"aqueduct/rewrite"
)

// tableMost is how great a table every peer may use.
const tableMost = 4096

// States of a backend's connection, as the pool tells them.
const (
	down    = 0
	dialled = 1
)

// link is an open connection, a client's or a backend's: they are told apart by what their events lead to, and by which side of a pair they are.
type link interface {
	In(b []byte) ([]api.Event, api.Errno)
	Out(n int) []byte
	Failed() int
	Waiting() int
	Held() int
	hear(p *Proxy, e api.Event, draw int)
	owns(k key, x *pair) bool
	lose(x *pair) // since its connection is gone
}

// client is a client's connection.
type client struct {
	*conn.Conn
	number int
}

// backend is a backend's connection. One that comes in its place has pairs of its own.
type backend struct {
	*conn.Conn
	number int           // the backend's
	pairs  map[int]*pair // by the connection's streams
}

func (p *Proxy) newClient(n int) *client {
	return &client{Conn: p.newConn(true, p.config.Streams), number: n}
}

func (p *Proxy) newBackend(n int) *backend {
	return &backend{Conn: p.newConn(false, 0), number: n, pairs: make(map[int]*pair)}
}

// backend answers the open connection of a backend; nil, if there is none.
func (p *Proxy) backend(n int) *backend {
	b, _ := p.links[p.config.Conns+n].(*backend)
	return b
}

// newConn answers a connection of which the peer may open so many streams.
func (p *Proxy) newConn(server bool, streams int) *conn.Conn {
	c, _ := conn.New(api.Setup{
		Server:  server,
		Streams: streams,
		Window:  p.config.Buffer,
		Frame:   api.MinFrame,
		List:    p.config.List,
		Table:   tableMost,
		Queue:   p.config.Queue,
	}) // a valid configuration's is not refused
	return c
}

// hear takes an event of a client's connection.
func (c *client) hear(p *Proxy, e api.Event, draw int) {
	x, paired := p.pairs[key{c.number, e.Stream}]
	switch {
	case e.Kind == api.EvFault:
		p.lose(c)
	case paired:
		x.Front(e)
	case e.Kind == api.EvHeaders && c.State(e.Stream) != api.SClosed:
		p.admit(c, e, draw)
	case e.Kind == api.EvData:
		c.Used(e.Stream, len(e.Bytes))
	}
}

func (c *client) owns(k key, _ *pair) bool {
	return k.client == c.number
}

func (c *client) lose(x *pair) {
	x.Lost(true)
}

// refuse answers a request in a backend's place. Where the client sends on, it is told that nobody listens.
func (c *client) refuse(stream int, status int) {
	c.Headers(stream, rewrite.Plain(status), true)
	if c.State(stream) != api.SClosed {
		c.Reset(stream, api.CNone)
	}
}

// hear takes an event of a backend's connection.
func (b *backend) hear(p *Proxy, e api.Event, _ int) {
	x, paired := b.pairs[e.Stream]
	switch {
	case e.Kind == api.EvOpen:
		p.pool.Limit(b.number, b.Slots())
	case e.Kind == api.EvGoaway:
		p.pool.Drain(b.number)
	case e.Kind == api.EvFault:
		p.lose(b)
		p.pool.Failed(b.number)
	case paired:
		x.Back(e)
	case e.Kind == api.EvData:
		b.Used(e.Stream, len(e.Bytes))
	}
}

func (b *backend) owns(_ key, x *pair) bool {
	return x.back == b
}

func (b *backend) lose(x *pair) {
	x.Lost(false)
	x.counts = false
}

package relay

import (
	"aqueduct/api"
	"aqueduct/conn"
	"aqueduct/message"
	"aqueduct/pump"
	"aqueduct/rewrite"
)

// name is the proxy's, as via tells it.
const name = "aqueduct"

// Statuses that are told apart.
const (
	statusFinal   = 200 // from here on a response is no interim one
	statusBad     = 502 // the backend has failed
	statusRefused = 503 // the backend has not looked at the request
)

// side is an end of a pair, told apart from the other one by what becomes of the pair at its events.
type side interface {
	begin(p *Pair, head api.Event) // its headers have come
	leave(p *Pair, code int)       // its stream is no more
}

// end is what both sides have.
type end struct {
	conn   *conn.Conn
	stream int
	pump   *pump.Pump // of what came from it
	over   bool       // it was said so
}

// front is the client's side.
type front struct{ *end }

// back is the backend's side.
type back struct{ *end }

// begin does nothing: the request went to the back ahead of the pair.
func (f *front) begin(*Pair, api.Event) {}

// leave lets the backend do no more for a client that is gone.
func (f *front) leave(p *Pair, code int) {
	f.over = true
	p.back.drop(api.CCancel)
}

// begin passes a response on, but for interim ones.
func (b *back) begin(p *Pair, head api.Event) {
	l, e := rewrite.Response(head.List, name)
	if e != api.OK {
		p.answer(statusBad)
		return
	}
	if status, _ := message.Response(head.List); status < statusFinal {
		return
	}
	if p.front.conn.Headers(p.front.stream, l, head.End) != api.OK {
		b.drop(api.CCancel)
		p.front.over = true
		return
	}
	p.passed = true
	if head.End {
		p.toFront.finish()
	}
}

// leave tells the client that its response can't be had, unless all of it has come.
func (b *back) leave(p *Pair, code int) {
	b.over = true
	status := statusBad
	switch {
	case !b.pump.Open(): // what has come of it goes on
	case p.passed:
		p.front.drop(code)
	case code == api.CRefused:
		status = statusRefused
		fallthrough
	default:
		p.answer(status)
	}
}

// cut ends a pair of which the client has sent what may not be.
func (p *Pair) cut() {
	p.front.drop(api.CFlow)
	p.back.drop(api.CCancel)
}

// answer ends a pair with a response of its own, or, where one is on its way already, with a reset.
func (p *Pair) answer(status int) {
	code := api.CInternal
	if !p.passed {
		p.front.conn.Headers(p.front.stream, rewrite.Plain(status), true)
		code = api.CNone
	}
	p.front.drop(code)
	if !p.back.isOver() {
		p.back.drop(api.CCancel)
	}
}

// isOver tells whether nothing more comes from a side, nor can go there.
func (d *end) isOver() bool {
	return d.over || d.conn.State(d.stream) == api.SClosed && d.pump.Len() == 0 && !d.pump.Open()
}

// drop resets the stream of a side, if it is not closed, and lets the side be over.
func (d *end) drop(code int) {
	d.conn.Reset(d.stream, code)
	d.over = true
}

// made tells whether a call made the connection: of any other one each stream is answered so, even 0, which is none.
func made(c *conn.Conn) bool {
	return c.Used(0, 0) != api.ErrZero
}

// known tells whether a stream is open there, be it on one side alone.
func known(c *conn.Conn, stream int) bool {
	state := c.State(stream)
	return state != api.SIdle && state != api.SClosed
}

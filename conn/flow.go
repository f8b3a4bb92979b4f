package conn

import (
	"aqueduct/api"
	"aqueduct/chunk"
	"aqueduct/message"
	"aqueduct/window"
)

// Statuses that are told apart.
const (
	statusFinal = 200 // from here on a response is no interim one
	statusSame  = 304 // its length is that of what it does not send
)

// untold is the length of a message that tells none.
const untold = -1

// flow is what a known stream has on its way, and what its messages have come to.
type flow struct {
	sending  *window.Window
	taking   int // what the peer may send still: below 0, if the own settings made it so
	held     int
	owed     int
	waiting  *chunk.Ring
	end      bool // waits behind the bytes
	tail     bool // trailers do
	trailers []api.Header
	told     bool // the own request went out, or the own response
	heard    bool // the peer's request came, or its response
	bare     bool // it is a HEAD that is answered: a length is not that of data
	length   int  // of the data that the peer has to send, or untold
	came     int  // of these
}

// newFlow answers the flow of a stream that opens now.
func (c *Conn) newFlow() *flow {
	k := &flow{taking: api.Window, length: untold}
	if c.agreed {
		k.taking = c.setup.Window
	}
	k.sending, _ = window.New(int(c.settings.Get(api.SetWindow)))
	k.waiting, _ = chunk.New(c.setup.Queue)
	return k
}

// judge tells whether headers may come now, and keeps what they say of what follows them.
func (k *flow) judge(e api.Event, server bool) bool {
	switch {
	case k.heard:
		return k.takeTrailers(e)
	case server:
		return k.takeRequest(e)
	}
	return k.takeResponse(e)
}

func (k *flow) takeRequest(e api.Event) bool {
	k.heard = true
	return message.Request(e.List) == api.OK && k.expect(e)
}

// takeResponse lets interim responses pass, as long as the stream goes on.
func (k *flow) takeResponse(e api.Event) bool {
	status, bad := message.Response(e.List)
	if bad != api.OK {
		return false
	}
	if status < statusFinal {
		return !e.End
	}
	k.heard = true
	return k.bare || status == statusSame || k.expect(e)
}

func (k *flow) takeTrailers(e api.Event) bool {
	return e.End && message.Trailers(e.List) == api.OK && k.fills(0, true)
}

// expect keeps the length that headers tell; false, if they are the last thing and tell of data.
func (k *flow) expect(e api.Event) bool {
	n, there, _ := message.Length(e.List)
	if there {
		k.length = n
	}
	return k.fills(0, e.End)
}

// fills tells whether the length that was told has room for n bytes more, and, if these are the last ones, is filled.
func (k *flow) fills(n int, end bool) bool {
	if k.length == untold {
		return true
	}
	left := k.length - k.came - n
	return left == 0 || left > 0 && !end
}

// waits tells whether anything waits to be sent.
func (k *flow) waits() bool {
	return k.waiting.Len() > 0 || k.end || k.tail
}

// use gives n bytes of a stream's back, of the connection's credit too. A peer that sends no more has no need of the stream's.
func (c *Conn) use(stream int, k *flow, n int) {
	k.held -= n
	k.owed += n
	state := c.streams.State(stream)
	sends := state == api.SOpen || state == api.SLocal
	if sends && k.owed > 0 && 2*k.owed >= c.setup.Window {
		c.write(api.Frame{Type: api.FWindow, Stream: stream, Inc: k.owed})
		k.taking += k.owed
		k.owed = 0
	}
	c.useOwn(n)
}

// useOwn gives n bytes of the connection's credit back.
func (c *Conn) useOwn(n int) {
	c.credit.Used(n)
	if n := c.credit.Give(); n > 0 {
		c.write(api.Frame{Type: api.FWindow, Inc: n})
	}
}

// reset writes a stream's RST_STREAM. One that both ends have ended is closed already, and stays so.
func (c *Conn) reset(stream int, code int) {
	c.write(api.Frame{Type: api.FReset, Stream: stream, Code: uint32(code)})
	c.streams.Do(stream, api.SendReset)
}

// forget lets a stream's flow go: nobody will use what it has held.
func (c *Conn) forget(stream int) {
	held := c.flows[stream].held
	delete(c.flows, stream)
	c.useOwn(held)
}

// tidy lets the flow of a stream go that both ends have ended, once nothing of it is held.
func (c *Conn) tidy(stream int) {
	k, known := c.flows[stream]
	if known && k.held == 0 && c.streams.State(stream) == api.SClosed {
		delete(c.flows, stream)
	}
}

package conn

import (
	"bytes"
	"slices"

	"aqueduct/api"
	"aqueduct/block"
	"aqueduct/frame"
	"aqueduct/hpack"
	"aqueduct/message"
)

// headBytes are those of a frame's head.
const headBytes = 9

// Open writes a request, and answers its stream's number.
func (c *Conn) Open(l []api.Header, end bool) (int, api.Errno) {
	switch {
	case !c.isMade():
		return 0, api.ErrZero
	case refused(l):
		return 0, api.ErrArg
	case !c.mayOpen():
		return 0, api.ErrState
	}
	if e := message.Request(l); e != api.OK {
		return 0, e
	}
	if len(c.written) > api.MaxBlock {
		return 0, api.ErrFull
	}
	id, e := c.streams.Own()
	if e != api.OK {
		return 0, e
	}
	k := c.newFlow()
	method, _ := message.Find(l, ":method")
	k.told, k.bare = true, method == "HEAD"
	c.flows[id] = k
	c.writeHead(id, l, end)
	return id, api.OK
}

// Headers writes a response, or trailers behind what waits to be sent.
func (c *Conn) Headers(stream int, l []api.Header, end bool) api.Errno {
	k, e := c.findSender(stream)
	switch {
	case e != api.OK:
		return e
	case refused(l):
		return api.ErrArg
	case k.told:
		return c.sendTrailers(stream, k, l, end)
	}
	return c.sendResponse(stream, k, l, end)
}

// Data lets as many bytes as have room wait to be sent, and, if these are all, the end behind them.
func (c *Conn) Data(stream int, b []byte, end bool) (int, api.Errno) {
	k, e := c.findSender(stream)
	if e != api.OK {
		return 0, e
	}
	if !k.told || k.tail {
		return 0, api.ErrState
	}
	n := k.waiting.Put(b)
	k.end = end && n == len(b)
	return n, api.OK
}

// Reset gives a stream up.
func (c *Conn) Reset(stream int, code int) api.Errno {
	if _, e := c.findOpen(stream); e != api.OK {
		return e
	}
	if !within(0, code, codeMost) {
		return api.ErrArg
	}
	c.reset(stream, code)
	c.forget(stream)
	return api.OK
}

// Used lets the peer send as many bytes again as were used of those that a stream has held.
func (c *Conn) Used(stream int, n int) api.Errno {
	k, e := c.find(stream)
	if e != api.OK {
		return e
	}
	if !within(0, n, k.held) {
		return api.ErrArg
	}
	c.use(stream, k, n)
	c.tidy(stream)
	return api.OK
}

// Goaway tells the peer that no further streams are wanted.
func (c *Conn) Goaway(code int) api.Errno {
	switch {
	case !c.isMade():
		return api.ErrZero
	case !within(0, code, codeMost):
		return api.ErrArg
	case !c.works() || c.left:
		return api.ErrState
	}
	c.left = true
	c.write(api.Frame{Type: api.FGoaway, Last: c.streams.Last(), Code: uint32(code)})
	return api.OK
}

// Out takes at most n bytes that are to be sent. What is written goes first, and whole: no frame begins within another one.
func (c *Conn) Out(n int) []byte {
	if !c.isMade() || n < 1 {
		return nil
	}
	b := c.takeWritten(n)
	ids := c.senders()
turns:
	for len(b) < n {
		for _, id := range inTurn(ids, c.served) {
			if c.maySend(id, n-len(b)) {
				c.served = id
				b = append(b, c.send(id, n-len(b))...)
				continue turns
			}
		}
		break
	}
	return b
}

// findOpen answers the flow of a stream that is known and not closed.
func (c *Conn) findOpen(stream int) (*flow, api.Errno) {
	k, e := c.find(stream)
	if e == api.OK && c.streams.State(stream) == api.SClosed {
		return nil, api.ErrNone
	}
	return k, e
}

// findSender answers the flow of a stream of which this end may send something still.
func (c *Conn) findSender(stream int) (*flow, api.Errno) {
	k, e := c.findOpen(stream)
	if e == api.OK && (k.end || c.streams.State(stream) == api.SLocal) {
		return nil, api.ErrState
	}
	return k, e
}

func (c *Conn) sendResponse(stream int, k *flow, l []api.Header, end bool) api.Errno {
	status, e := message.Response(l)
	if e != api.OK {
		return e
	}
	interim := status < statusFinal
	if interim && end {
		return api.ErrArg
	}
	k.told = !interim
	c.writeHead(stream, l, end)
	return api.OK
}

func (c *Conn) sendTrailers(stream int, k *flow, l []api.Header, end bool) api.Errno {
	if e := message.Trailers(l); e != api.OK {
		return e
	}
	switch {
	case !end:
		return api.ErrArg
	case k.tail:
		return api.ErrState
	case k.waiting.Len() > 0:
		k.tail, k.trailers = true, slices.Clone(l)
	default:
		c.writeHead(stream, l, true)
	}
	return api.OK
}

// writeHead writes a header block, with frames that every peer takes.
func (c *Conn) writeHead(stream int, l []api.Header, end bool) {
	b, _ := c.encoder.Encode(l)
	frames, _ := block.Split(stream, b, end, api.MinFrame)
	for _, f := range frames {
		c.write(f)
	}
	what := api.SendHeaders
	if end {
		what = api.SendEnd
	}
	c.streams.Do(stream, what)
	c.tidy(stream)
}

// takeWritten takes at most n bytes of what is written. When nothing is left the memory goes too.
func (c *Conn) takeWritten(n int) []byte {
	n = min(n, len(c.written))
	b := bytes.Clone(c.written[:n])
	c.written = c.written[n:]
	if len(c.written) == 0 {
		c.written = nil
	}
	return b
}

// senders answers the streams of which something waits to be sent, rising.
func (c *Conn) senders() []int {
	var ids []int
	for id, k := range c.flows {
		if k.waits() {
			ids = append(ids, id)
		}
	}
	slices.Sort(ids)
	return ids
}

// inTurn answers numbers that rise so that those behind the one that was served last come first.
func inTurn(ids []int, served int) []int {
	at, _ := slices.BinarySearch(ids, served+1)
	return slices.Concat(ids[at:], ids[:at])
}

// maySend tells whether a stream may send something with so many bytes left. Trailers are written whole, and go out as those bytes allow.
func (c *Conn) maySend(id int, left int) bool {
	k, known := c.flows[id]
	switch {
	case !known: // its end was sent
		return false
	case k.waiting.Len() > 0:
		return c.allowed(k, left) > 0
	}
	return k.tail || k.end && left >= headBytes
}

// allowed tells how many of the bytes that wait a frame may have.
func (c *Conn) allowed(k *flow, left int) int {
	most := int(c.settings.Get(api.SetFrame))
	return max(0, min(k.waiting.Len(), k.sending.Size(), c.sending.Size(), most, left-headBytes))
}

// send answers the next frame of a stream that may send, or as much of its trailers as there is room for.
func (c *Conn) send(id int, left int) []byte {
	k := c.flows[id]
	if k.tail && k.waiting.Len() == 0 {
		c.writeHead(id, k.trailers, true)
		k.tail, k.trailers = false, nil
		return c.takeWritten(left)
	}
	n := c.allowed(k, left)
	k.sending.Take(n)
	c.sending.Take(n)
	f := api.Frame{Type: api.FData, Stream: id, Payload: k.waiting.Take(n)}
	if k.end && k.waiting.Len() == 0 {
		k.end = false
		f.Flags = api.FlagEnd
		c.streams.Do(id, api.SendEnd)
		c.tidy(id)
	}
	b, _ := frame.Write(f)
	return b
}

// refused tells whether hpack can't write a list. It is asked of an encoder of no use else: the own one would keep what is written.
func refused(l []api.Header) bool {
	e, _ := hpack.NewEncoder(0)
	_, bad := e.Encode(l)
	return bad != api.OK
}

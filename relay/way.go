package relay

import (
	"aqueduct/api"
	"aqueduct/rewrite"
)

// way is one direction of a pair.
type way struct {
	from    *end
	to      *end
	ended   bool        // the end was handed on
	refused func(*Pair) // what becomes of the pair, if something that came can't go this way
}

// takeData lays data that came into the pump.
func (w *way) takeData(p *Pair, e api.Event) {
	if w.from.pump.Put(e.Bytes) != api.OK {
		w.refused(p)
		return
	}
	if e.End {
		w.from.pump.End()
	}
}

// takeTrailers lays trailers that came behind what is in the pump.
func (w *way) takeTrailers(p *Pair, e api.Event) {
	l, bad := rewrite.Trailers(e.List)
	if bad != api.OK || w.from.pump.Tail(l) != api.OK {
		w.refused(p)
	}
}

// finish ends a way of which the end went with headers, past the pump.
func (w *way) finish() {
	w.from.pump.End()
	w.ended = true
}

// move hands on what there is room for, and tells how many bytes that were.
func (w *way) move() int {
	if w.to.isOver() {
		w.spill()
		return 0
	}
	n := w.handData()
	w.handTrailers()
	return n
}

// spill lets all go that is in the pump, since nobody takes it any more. The pump stays open: more may come, and goes likewise.
func (w *way) spill() {
	w.done(w.from.pump.Len())
	w.from.pump.Last()
}

// handData hands on bytes, and the end behind them.
func (w *way) handData() int {
	b, last := w.from.pump.Next(w.to.conn.Room(w.to.stream))
	end := last && !w.ended
	if len(b) == 0 && !end {
		return 0
	}
	n, e := w.to.conn.Data(w.to.stream, b, end)
	w.heed(e, end)
	w.done(n)
	return n
}

// handTrailers hands on trailers, once no bytes are ahead of them.
func (w *way) handTrailers() {
	if l, there := w.from.pump.Last(); there {
		w.heed(w.to.conn.Headers(w.to.stream, l, true), true)
	}
}

// heed takes what the connection has answered to what was handed on, with or without the end.
func (w *way) heed(e api.Errno, end bool) {
	switch e {
	case api.OK:
		w.ended = w.ended || end
	case api.ErrNone:
		w.to.over = true
	}
}

// done lets bytes go from the pump, and the side that they came from send as many again.
func (w *way) done(n int) {
	w.from.pump.Done(n)
	w.from.conn.Used(w.from.stream, n)
}

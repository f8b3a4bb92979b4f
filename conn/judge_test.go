package conn_test

import (
	"testing"

	"aqueduct/api"
	"aqueduct/frame"
	"aqueduct/hpack"
	"aqueduct/message"
)

// line is what a judge knows of a stream.
type line struct {
	heads    int  // final ones that the end has sent
	sentEnd  bool // by the end
	gotEnd   bool // by its peer
	reset    bool // by the end
	gotReset bool
	window   int // for what the end sends
	credit   int // for what the peer sends: never more than has come
	data     []byte
}

// judge looks at all that one end writes and gets, and tells whether that is a legal trace. It knows nothing of the end but its bytes.
type judge struct {
	t        *testing.T
	server   bool
	written  []byte // that are no whole frame yet
	came     []byte
	greeting string // what is to come of the preface, on either side
	started  bool
	lines    map[int]*line
	top      int // the greatest stream that a client has opened
	offers   [][]api.Setting
	peer     map[int]int // the settings of the peer that the end has acknowledged
	window   int
	credit   int
	open     int // the stream of an open block
	endOpen  bool
	block    []byte
	decoder  *hpack.Decoder
	failed   bool // GOAWAY with a code was the last frame
}

func newJudge(t *testing.T, server bool) *judge {
	j := &judge{t: t, server: server, lines: map[int]*line{}, window: 65535, greeting: preface,
		peer: map[int]int{1: 4096, 3: 1 << 32, 4: 65535, 5: 16384}}
	j.decoder, _ = hpack.NewDecoder(4096, api.MaxInt)
	return j
}

func (j *judge) line(id int) *line {
	l, there := j.lines[id]
	if !there {
		l = &line{window: j.peer[4]}
		j.lines[id] = l
	}
	return l
}

// next cuts a whole frame off.
func next(b *[]byte) (api.Frame, api.Fault, bool) {
	f, n, bad, e := frame.Parse(*b, api.MaxFrame)
	if e != api.OK {
		return f, bad, false
	}
	if len(*b) >= 9 {
		size, _, _, _, _ := frame.Head(*b)
		n = min(len(*b), 9+size)
	}
	*b = (*b)[n:]
	return f, bad, true
}

// got looks at bytes that the end is given. What is wrong in them is not the judge's.
func (j *judge) got(b []byte) {
	j.came = append(j.came, b...)
	if j.server {
		n := min(len(j.greeting), len(j.came))
		j.greeting, j.came = j.greeting[n:], j.came[n:]
	}
	for {
		f, bad, there := next(&j.came)
		if !there {
			return
		}
		if !bad.Is {
			j.take(f)
		}
	}
}

func (j *judge) take(f api.Frame) {
	switch f.Type {
	case api.FHeaders, api.FData:
		l := j.line(f.Stream)
		l.gotEnd = l.gotEnd || f.Flags&api.FlagEnd != 0
		if f.Type == api.FHeaders && j.server {
			j.top = max(j.top, f.Stream)
		}
		if f.Type == api.FData {
			n := len(f.Payload)
			if f.Flags&api.FlagPad != 0 {
				n += f.Pad + 1
			}
			l.credit += n
			j.credit += n
		}
	case api.FReset:
		j.line(f.Stream).gotReset = true
	case api.FSettings:
		if f.Flags&api.FlagAck == 0 {
			j.offers = append(j.offers, f.Sets)
		}
	case api.FWindow:
		if f.Stream == 0 {
			j.window += f.Inc
		} else {
			j.line(f.Stream).window += f.Inc
		}
	}
}

// wrote looks at bytes that the end has written.
func (j *judge) wrote(b []byte) {
	j.t.Helper()
	j.written = append(j.written, b...)
	if !j.server {
		n := min(len(j.greeting), len(j.written))
		if string(j.written[:n]) != j.greeting[:n] {
			j.t.Fatalf("the preface: %q", j.written[:n])
		}
		j.greeting, j.written = j.greeting[n:], j.written[n:]
	}
	for {
		if size, _, _, _, e := frame.Head(j.written); e == api.OK && size > j.peer[5] {
			j.t.Fatalf("a frame of %d bytes, %d may be", size, j.peer[5])
		}
		f, bad, there := next(&j.written)
		if !there {
			return
		}
		if bad.Is {
			j.t.Fatalf("a frame with a fault: %v", bad)
		}
		j.look(f)
	}
}

// look looks at a frame that was written.
func (j *judge) look(f api.Frame) {
	j.t.Helper()
	wrong := func(why string) {
		j.t.Helper()
		j.t.Fatalf("%s: type %d, stream %d, flags %d, %d bytes", why, f.Type, f.Stream, f.Flags, len(f.Payload))
	}
	switch {
	case j.failed:
		wrong("behind a failure")
	case !j.started && (f.Type != api.FSettings || f.Flags != 0):
		wrong("the first frame")
	case j.open != 0 && (f.Type != api.FContinue || f.Stream != j.open):
		wrong("within a block")
	case j.open == 0 && f.Type == api.FContinue:
		wrong("no block is open")
	case f.Stream != 0 && j.lines[f.Stream] != nil && j.lines[f.Stream].reset:
		wrong("behind RST_STREAM")
	}
	j.started = true
	switch f.Type {
	case api.FData:
		j.lookData(f, wrong)
	case api.FHeaders, api.FContinue:
		j.lookBlock(f, wrong)
	case api.FReset:
		if j.lines[f.Stream] == nil {
			wrong("RST_STREAM of an idle stream")
		}
		j.line(f.Stream).reset = true
	case api.FSettings:
		if f.Flags == api.FlagAck {
			j.agree(wrong)
		}
	case api.FGoaway:
		j.failed = f.Code != 0
	case api.FWindow:
		j.lookCredit(f, wrong)
	case api.FPing:
		if f.Flags != api.FlagAck {
			wrong("a PING of its own")
		}
	default:
		wrong("a type that no end writes")
	}
}

func (j *judge) lookData(f api.Frame, wrong func(string)) {
	l := j.line(f.Stream)
	switch n := len(f.Payload); {
	case l.heads == 0:
		wrong("DATA ahead of HEADERS")
	case l.sentEnd:
		wrong("DATA behind the end")
	case n > 0 && n > l.window:
		wrong("DATA above the stream's window")
	case n > 0 && n > j.window:
		wrong("DATA above the connection's window")
	case n == 0 && f.Flags != api.FlagEnd:
		wrong("DATA of nothing")
	}
	l.window -= len(f.Payload)
	j.window -= len(f.Payload)
	l.data = append(l.data, f.Payload...)
	l.sentEnd = f.Flags&api.FlagEnd != 0
}

func (j *judge) lookBlock(f api.Frame, wrong func(string)) {
	if f.Type == api.FHeaders {
		j.open, j.endOpen, j.block = f.Stream, f.Flags&api.FlagEnd != 0, nil
	}
	j.block = append(j.block, f.Payload...)
	if f.Flags&api.FlagDone == 0 {
		return
	}
	j.open = 0
	list, _, e := j.decoder.Decode(j.block)
	if e != api.OK {
		wrong("a block that can't be decoded")
	}
	if !j.server && f.Stream > j.top {
		j.lookOpening(f, wrong)
	}
	l := j.lines[f.Stream]
	if l == nil {
		wrong("HEADERS of an idle stream")
	}
	if l.sentEnd {
		wrong("HEADERS behind the end")
	}
	l.sentEnd = j.endOpen
	status, bad := message.Response(list)
	switch {
	case l.heads > 0:
		if message.Trailers(list) != api.OK || !j.endOpen {
			wrong("trailers")
		}
	case j.server && (bad != api.OK || status < 200 && j.endOpen):
		wrong("a response")
	case !j.server && message.Request(list) != api.OK:
		wrong("a request")
	case !j.server || status >= 200:
		l.heads++
	}
}

// lookOpening looks at a stream that a client opens.
func (j *judge) lookOpening(f api.Frame, wrong func(string)) {
	if f.Stream%2 == 0 {
		wrong("a stream of the other side")
	}
	j.top = f.Stream
	open := 0
	for _, l := range j.lines {
		if l.heads > 0 && !l.reset && !l.gotReset && !(l.sentEnd && l.gotEnd) {
			open++
		}
	}
	if open >= j.peer[3] {
		wrong("one stream too many")
	}
	j.line(f.Stream)
}

// agree lets the peer's next settings hold for what is written from here on.
func (j *judge) agree(wrong func(string)) {
	if len(j.offers) == 0 {
		wrong("nothing to acknowledge")
	}
	for _, s := range j.offers[0] {
		if s.ID == api.SetWindow {
			for _, l := range j.lines {
				l.window += int(s.Value) - j.peer[4]
			}
		}
		j.peer[s.ID] = int(s.Value)
	}
	j.offers = j.offers[1:]
}

func (j *judge) lookCredit(f api.Frame, wrong func(string)) {
	if f.Stream == 0 {
		j.credit -= f.Inc
		if j.credit < 0 {
			wrong("credit that nobody has spent")
		}
		return
	}
	l := j.line(f.Stream)
	l.credit -= f.Inc
	if l.credit < 0 {
		wrong("a stream's credit that nobody has spent")
	}
}

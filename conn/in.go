package conn

import (
	"maps"
	"slices"

	"aqueduct/api"
)

// intake is one call of In: a connection, and whom its events are told.
type intake struct {
	*Conn
	tell func(api.Event)
}

// failure is the code that a connection fails with. What is being done is left by a panic with it.
type failure int

// In takes bytes that have come, and tells the events that they lead to.
func (c *Conn) In(b []byte) ([]api.Event, api.Errno) {
	if !c.isMade() {
		return nil, api.ErrZero
	}
	if !c.works() {
		return nil, api.ErrState
	}
	var events []api.Event
	in := intake{c, func(e api.Event) { events = append(events, e) }}
	in.take(b)
	return events, api.OK
}

// takers answers what is done with a whole frame, by its type. Of those that are left out nothing is done.
func takers() map[int]func(intake, api.Frame) {
	return map[int]func(intake, api.Frame){
		api.FData:     intake.takeData,
		api.FHeaders:  intake.takeHeaders,
		api.FReset:    intake.takeReset,
		api.FSettings: intake.takeSettings,
		api.FPush:     intake.takePush,
		api.FPing:     intake.takePing,
		api.FGoaway:   intake.takeGoaway,
		api.FWindow:   intake.takeWindow,
	}
}

// take goes over bytes frame by frame, till there is none, or the connection fails.
func (in intake) take(b []byte) {
	defer func() {
		if r := recover(); r != nil {
			in.shut(int(r.(failure)))
		}
	}()
	in.reader.Feed(in.takePreface(b))
	byType := takers()
	for {
		f, there, bad := in.reader.Next()
		switch {
		case there:
			in.takeFrame(f, byType)
		case bad.Is:
			in.blame(bad)
		default:
			return
		}
		if len(in.written) > api.MaxBlock {
			fail(api.CCalm)
		}
	}
}

// takePreface holds b against what is still to come of the preface, and answers what stands behind it.
func (in intake) takePreface(b []byte) []byte {
	n := min(len(b), len(in.greeting))
	if string(b[:n]) != in.greeting[:n] {
		fail(api.CProtocol)
	}
	in.greeting = in.greeting[n:]
	return b[n:]
}

// takeFrame puts header blocks together, and does what is to be done with whole frames.
func (in intake) takeFrame(f api.Frame, byType map[int]func(intake, api.Frame)) {
	if !in.ready && (f.Type != api.FSettings || acknowledges(f)) {
		fail(api.CProtocol)
	}
	whole, there, bad := in.joiner.In(f)
	if bad.Is {
		in.blame(bad)
	}
	if take, known := byType[whole.Type]; there && known {
		take(in, whole)
	}
}

// takeHeaders reads a block even where nobody asks for its headers: the table must stay the same as the peer's.
func (in intake) takeHeaders(f api.Frame) {
	l, _, e := in.decoder.Decode(f.Payload)
	large := e == api.ErrList
	if e != api.OK && !large {
		fail(api.CCompress)
	}
	head := api.Event{Kind: api.EvHeaders, Stream: f.Stream, List: l, End: ends(f)}
	switch {
	case in.streams.Dropped(f.Stream):
		return
	case in.streams.State(f.Stream) != api.SIdle:
		in.goOn(head, large)
	case in.setup.Server:
		in.admit(head, large)
	default:
		fail(api.CProtocol)
	}
}

// admit opens the stream of a new request, or refuses it. Behind Goaway it must have been open to be closed, and remembered as one that was dropped.
func (in intake) admit(head api.Event, large bool) {
	free, bad := in.streams.Peer(head.Stream)
	if bad.Is {
		fail(bad.Code)
	}
	in.streams.Do(head.Stream, received(api.RecvHeaders, head.End))
	if !free || in.left {
		in.reset(head.Stream, api.CRefused)
		return
	}
	in.flows[head.Stream] = in.newFlow()
	in.tellHead(head, large)
}

// goOn takes further headers of a stream that was opened.
func (in intake) goOn(head api.Event, large bool) {
	_, bad, _ := in.streams.Do(head.Stream, received(api.RecvHeaders, head.End))
	switch {
	case !bad.Is:
		in.tellHead(head, large)
	case bad.Stream == 0:
		fail(bad.Code)
	default:
		in.spoil(head.Stream, bad.Code)
	}
}

// tellHead tells headers or trailers, or makes the stream a bad one, if they can't be told.
func (in intake) tellHead(head api.Event, large bool) {
	k := in.flows[head.Stream]
	if k.heard {
		head.Kind = api.EvTrailers
	}
	switch {
	case large:
		in.spoil(head.Stream, api.CCalm)
	case !k.judge(head, in.setup.Server):
		in.spoil(head.Stream, api.CProtocol)
	default:
		in.tell(head)
		in.tidy(head.Stream)
	}
}

// takeData takes data of which the connection's credit is asked first, since that counts those of all streams.
func (in intake) takeData(f api.Frame) {
	padding := 0
	if f.Flags&api.FlagPad != 0 {
		padding = f.Pad + 1
	}
	weight := len(f.Payload) + padding
	if in.credit.Got(weight) != api.OK {
		fail(api.CFlow)
	}
	if in.streams.Dropped(f.Stream) {
		in.useOwn(weight)
		return
	}
	if code := in.weigh(f, weight); code != api.CNone {
		in.spoil(f.Stream, code)
		in.useOwn(weight)
		return
	}
	in.keep(f, weight)
	if padding > 0 {
		in.use(f.Stream, in.flows[f.Stream], padding)
	}
	if len(f.Payload) > 0 || ends(f) {
		in.tell(api.Event{Kind: api.EvData, Stream: f.Stream, Bytes: f.Payload, End: ends(f)})
	}
	in.tidy(f.Stream)
}

// weigh steps the stream of data, and tells the code by which it is a bad one.
func (in intake) weigh(f api.Frame, weight int) int {
	what := received(api.RecvData, ends(f))
	if in.streams.State(f.Stream) == api.SIdle {
		what = api.RecvData // an end would open it
	}
	_, bad, _ := in.streams.Do(f.Stream, what)
	if bad.Is && bad.Stream == 0 {
		fail(bad.Code)
	}
	k := in.flows[f.Stream]
	switch {
	case bad.Is:
		return bad.Code
	case k.taking < weight:
		return api.CFlow
	case !k.heard || !k.fills(len(f.Payload), ends(f)):
		return api.CProtocol
	}
	return api.CNone
}

// keep holds data till they are used.
func (in intake) keep(f api.Frame, weight int) {
	k := in.flows[f.Stream]
	k.taking -= weight
	k.held += weight
	k.came += len(f.Payload)
}

func (in intake) takeReset(f api.Frame) {
	in.step(f.Stream, api.RecvReset)
	if _, known := in.flows[f.Stream]; known {
		in.tell(api.Event{Kind: api.EvReset, Stream: f.Stream, Code: int(f.Code)})
		in.forget(f.Stream)
	}
}

func (in intake) takeSettings(f api.Frame) {
	if acknowledges(f) {
		in.agree()
		return
	}
	change, bad := in.settings.Apply(f.Sets)
	if bad.Is {
		fail(bad.Code)
	}
	for _, k := range in.flows {
		if k.sending.Shift(change) != api.OK {
			fail(api.CFlow)
		}
	}
	in.encoder.Limit(min(int(in.settings.Get(api.SetTable)), tableMost))
	in.streams.Limit(int(in.settings.Get(api.SetStreams)))
	in.write(api.Frame{Type: api.FSettings, Flags: api.FlagAck})
	if !in.ready {
		in.ready = true
		in.tell(api.Event{Kind: api.EvOpen})
	}
}

// agree lets the own settings hold, now that the peer has them. There is one offer alone, so that there is no second acknowledgement.
func (in intake) agree() {
	if _, e := in.settings.Ack(); e != api.OK {
		fail(api.CProtocol)
	}
	in.agreed = true
	for _, k := range in.flows {
		k.taking += in.setup.Window - api.Window
	}
}

// takePush fails, since no end allows pushes.
func (in intake) takePush(api.Frame) {
	fail(api.CProtocol)
}

func (in intake) takePing(f api.Frame) {
	if !acknowledges(f) {
		in.write(api.Frame{Type: api.FPing, Flags: api.FlagAck, Payload: f.Payload})
	}
}

// takeGoaway ends the streams that the peer has not looked at, of which a client's end may try again elsewhere.
func (in intake) takeGoaway(f api.Frame) {
	in.leaving = true
	in.tell(api.Event{Kind: api.EvGoaway, Last: f.Last, Code: int(f.Code)})
	if in.setup.Server {
		return
	}
	for _, id := range slices.Sorted(maps.Keys(in.flows)) {
		if id > f.Last {
			in.step(id, api.RecvReset)
			in.tell(api.Event{Kind: api.EvReset, Stream: id, Code: api.CRefused})
			in.forget(id)
		}
	}
}

func (in intake) takeWindow(f api.Frame) {
	if f.Stream == 0 {
		if in.sending.Add(f.Inc) != api.OK {
			fail(api.CFlow)
		}
		return
	}
	in.step(f.Stream, api.RecvWindow)
	if k, known := in.flows[f.Stream]; known && k.sending.Add(f.Inc) != api.OK {
		in.spoil(f.Stream, api.CFlow)
	}
}

// step steps a stream by what can be a fault of the connection alone.
func (in intake) step(stream int, what int) {
	if _, bad, _ := in.streams.Do(stream, what); bad.Is {
		fail(bad.Code)
	}
}

// blame answers the fault of a frame. A stream that is idle can't be reset, and one that is closed need not be.
func (in intake) blame(bad api.Fault) {
	state := in.streams.State(bad.Stream)
	switch {
	case bad.Stream == 0, !in.ready, state == api.SIdle:
		fail(bad.Code)
	case state != api.SClosed:
		in.spoil(bad.Stream, bad.Code)
	}
}

// spoil makes a stream a bad one.
func (in intake) spoil(stream int, code int) {
	in.reset(stream, code)
	in.tell(api.Event{Kind: api.EvBad, Stream: stream, Code: code})
	in.forget(stream)
}

// fail leaves all that is being done.
func fail(code int) {
	panic(failure(code))
}

// shut is how a connection fails. No credit is given for what its streams have held: nothing that comes is looked at any more.
func (in intake) shut(code int) {
	in.write(api.Frame{Type: api.FGoaway, Last: in.streams.Last(), Code: uint32(code)})
	in.tell(api.Event{Kind: api.EvFault, Code: code})
	in.failed = code
	in.flows, in.streams, in.reader, in.joiner = nil, nil, nil, nil
}

// received answers how a stream steps by what comes.
func received(what int, end bool) int {
	if end {
		return api.RecvEnd
	}
	return what
}

func ends(f api.Frame) bool {
	return f.Flags&api.FlagEnd != 0
}

func acknowledges(f api.Frame) bool {
	return f.Flags&api.FlagAck != 0
}

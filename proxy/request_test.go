package proxy_test

import (
	"bytes"
	"math"
	"strconv"
	"strings"
	"testing"

	"aqueduct/api"
)

// hello is what a client says first that lets its peer's settings be as they are.
const hello = "PRI * HTTP/2.0\r\n\r\nSM\r\n\r\n\x00\x00\x00\x04\x00\x00\x00\x00\x00"

// get is a short request's head as a frame.
func get(id int, flags int) api.Frame {
	return api.Frame{Type: api.FHeaders, Flags: api.FlagDone | flags, Stream: id, Payload: []byte{0x82, 0x84, 0x87}}
}

// dataOf is data as a frame.
func dataOf(id int, n int, flags int) api.Frame {
	return api.Frame{Type: api.FData, Flags: flags, Stream: id, Payload: bytes.Repeat([]byte("d"), n)}
}

// only lets all backends but one be down.
func only(w *world, back int) {
	w.t.Helper()
	for n := range w.config.Backs {
		if n != back {
			w.closes(w.at(n))
		}
	}
}

// P22.2: a request goes to a backend, rewritten.
func TestRequest(t *testing.T) {
	w := begin(t, config())
	w.asks(0, 0, false, "host", "a", "cookie", "c=1", "x", "y", "authorization", "z", "cookie", "d=2", "via", "1.1 b")
	w.asks(1, 0, true, ":authority", "e", "host", "a")
	w.is(2, 1, 1)
	w.runs()
	w.hears(2, "headers 1 host=a cookie=c=1; d=2! x=y authorization=z! via=1.1 b, 2 aqueduct")
	w.hears(3, "headers 1 :authority=e via=2 aqueduct end")
	w.hears(0)
	w.hears(1)
}

// P22.2, P18.1: ties are decided by the draw.
func TestDraw(t *testing.T) {
	c := config()
	c.Backs = 3
	w := begin(t, c)
	for _, x := range []struct{ draw, back int }{{0, 0}, {1, 1}, {2, 2}, {3, 0}, {7, 1}, {-1, 2}, {-2, 1}, {-3, 0}, {math.MaxInt, 1}, {math.MinInt, 1}} {
		id := w.asks(0, x.draw, false)
		loads := make([]int, 3)
		loads[x.back] = 1
		w.is(1, loads...)
		w.resets(0, id, api.CCancel)
		w.sends(0)
		w.is(0, 0, 0, 0)
	}
}

// P22.4, G6: the least load wins, whatever the draw is.
func TestLeastLoad(t *testing.T) {
	w := begin(t, config())
	w.asks(0, 1, false)
	w.is(1, 0, 1)
	w.asks(1, 1, false)
	w.is(2, 1, 1)
	w.asks(1, 1, false)
	w.is(3, 1, 2)
	w.asks(0, 1, false)
	w.is(4, 2, 2)
	w.runs()
	w.heads(2, 1, response("204"), true)
	w.heads(2, 3, response("204"), true)
	w.sends(2)
	for _, c := range []int{0, 1} {
		for _, id := range w.peers[c].Streams() {
			if w.peers[c].State(id) == api.SOpen {
				w.data(c, id, "", true)
			}
		}
	}
	w.runs()
	w.is(2, 0, 2)
	w.asks(0, 1, false)
	w.is(3, 1, 2)
}

// All requests that come in the same bytes have one draw, and each counts ahead of the next one.
func TestSameBytes(t *testing.T) {
	w := newWorld(t, config())
	w.begins()
	b := bytesOf(t, get(1, 0), get(3, api.FlagEnd), get(5, 0))
	w.does(api.In{What: api.InBytes, A: 1, Draw: 1, Bytes: b})
	w.is(3, 1, 2)
	w.takes(2)
	w.takes(3)
	w.hears(2, "headers 1 via=2 aqueduct end")
	w.hears(3, "headers 1 via=2 aqueduct", "headers 3 via=2 aqueduct")
}

// P22.2: with no backend a request is refused; where the client has more to send, its stream is reset.
func TestNoBackend(t *testing.T) {
	c := config()
	c.Backs = 0
	w := begin(t, c)
	w.asks(0, 5, true)
	w.takes(0)
	w.writes(0, "HEADERS 1")
	w.hears(0, "headers 1 :status=503 end")
	w.asks(0, -5, false)
	w.takes(0)
	w.writes(0, "HEADERS 3", "RST 3")
	w.hears(0, "headers 3 :status=503 end", "reset 3 code 0")
	w.is(0)
	w.asks(1, 0, true)
	w.takes(1)
	w.hears(1, "headers 1 :status=503 end")
}

// refused looks at whether a client's next request is refused.
func refused(w *world, n int, status string, texts ...string) {
	w.t.Helper()
	pairs := w.p.Pairs()
	id := w.asks(n, 0, true, texts...)
	w.takes(n)
	w.hears(n, "headers "+strconv.Itoa(id)+" :status="+status+" end")
	if w.p.Pairs() != pairs {
		w.t.Fatalf("%d pairs", w.p.Pairs())
	}
}

// A backend takes requests when its settings have come, not earlier.
func TestUntilSettings(t *testing.T) {
	w := newWorld(t, config())
	w.joins(0)
	w.runs()
	w.forgets()
	refused(w, 0, "503")
	w.ticks("dial 0", "dial 1")
	refused(w, 0, "503")
	w.backs(1)
	refused(w, 0, "503")
	w.sends(3)
	w.asks(0, 0, true)
	w.is(1, 0, 1)
}

// P22.2: no more requests go to a backend than it has told that it takes.
func TestSlots(t *testing.T) {
	w := newWorld(t, config())
	for n, streams := range []int{1, 2} {
		s := peer(true)
		s.Streams = streams
		w.setups[w.at(n)] = s
	}
	w.begins()
	w.asks(0, 0, false)
	w.asks(0, 0, false)
	w.asks(0, 0, false)
	w.is(3, 1, 2)
	refused(w, 1, "503")
	w.resets(0, 1, api.CCancel)
	w.sends(0)
	w.is(2, 0, 2)
	w.asks(1, 1, false)
	w.is(3, 1, 2)
	refused(w, 1, "503")
}

// settingsOf is a SETTINGS frame that tells how many streams there may be.
func settingsOf(streams int) api.Frame {
	return api.Frame{Type: api.FSettings, Sets: []api.Setting{{ID: api.SetStreams, Value: uint32(streams)}}}
}

// P22.2: a connection may have less room than what its backend told first, or more.
func TestSlotsOfConnection(t *testing.T) {
	w := newWorld(t, config())
	s := peer(true)
	s.Streams = 2
	w.setups[2], w.setups[3] = s, s
	w.begins()
	only(w, 0)
	w.asks(0, 0, false)
	w.gives(2, bytesOf(t, settingsOf(1)))
	refused(w, 0, "503")
	w.gives(2, bytesOf(t, settingsOf(0)))
	refused(w, 0, "503")
	w.gives(2, bytesOf(t, settingsOf(9)))
	w.asks(0, 0, false)
	w.is(2, 2, 0)
	refused(w, 1, "503") // the pool's limit stays
}

// One with less room on its connection is passed over, though it has less load.
func TestSlotsPassedOver(t *testing.T) {
	w := begin(t, config())
	w.gives(3, bytesOf(t, settingsOf(0)))
	w.asks(0, 1, false)
	w.asks(0, 1, false)
	w.is(2, 2, 0)
	w.gives(3, bytesOf(t, settingsOf(1)))
	w.asks(0, 1, false)
	w.is(3, 2, 1)
}

// P22.2: what can't be rewritten is refused with 400, if there is a backend for it.
func TestBadRequest(t *testing.T) {
	long := strings.Repeat("c", 10000)
	w := begin(t, config())
	refused(w, 0, "400", "cookie", long, "cookie", long)
	refused(w, 1, "400", "via", long, "via", long)
	w.is(0, 0, 0)
	w.asks(0, 0, false, "cookie", long, "cookie", long)
	w.takes(0)
	w.hears(0, "headers 3 :status=400 end", "reset 3 code 0")
	w.is(0, 0, 0)
	w.asks(0, 0, true, "cookie", long)
	w.is(1, 1, 0)
	w.closes(2)
	w.closes(3)
	w.takes(0)
	w.forgets()
	refused(w, 0, "503", "cookie", long, "cookie", long)
}

// P22.2: what the backend's connection refuses is refused with 503: one header too many, with via.
func TestOpenRefuses(t *testing.T) {
	var texts []string
	for range api.MaxHeaders - 3 {
		texts = append(texts, "a", "")
	}
	w := begin(t, config())
	refused(w, 0, "503", texts...)
	w.is(0, 0, 0)
	w.asks(0, 0, true, texts[2:]...)
	w.is(1, 1, 0)
	w.forgets()
	w.takes(2)
	if l := w.news[2]; len(l) != 1 || strings.Count(l[0], " a=") != api.MaxHeaders-4 {
		t.Errorf("the backend hears %q", l)
	}
	id := w.asks(1, 0, false, texts...)
	w.takes(1)
	w.hears(1, "headers "+strconv.Itoa(id)+" :status=503 end", "reset "+strconv.Itoa(id)+" code 0")
}

// P22.2: a backend's connection that is full of what waits is not given more.
func TestOpenIsFull(t *testing.T) {
	long := strings.Repeat("~", 12000) // which has no shorter code
	w := begin(t, config())
	only(w, 1)
	for n := range 3 {
		w.asks(0, 0, false, "x", long, "y", long)
		w.is(n+1, 0, n+1)
	}
	refused(w, 1, "503")
	w.takes(3)
	w.asks(1, 0, true)
	w.is(4, 0, 4)
}

// P22.2: a request whose stream has been closed by what came behind it goes nowhere.
func TestClosedAlready(t *testing.T) {
	w := begin(t, config())
	reset := api.Frame{Type: api.FReset, Stream: 1, Code: api.CCancel}
	w.gives(0, bytesOf(t, get(1, 0), dataOf(1, 5, 0), reset))
	w.is(0, 0, 0)
	w.gives(0, append(bytesOf(t, get(3, api.FlagEnd)), garbage...))
	w.is(0, 0, 0)
	w.takes(0, "close 0")
	w.writes(0, "GOAWAY 0 9") // stream 3, and the code 6
	w.takes(2)
	w.takes(3)
	w.hears(2)
	w.hears(3)
}

// P22.2: data of a request that was refused are used at once.
func TestUnpairedData(t *testing.T) {
	c := config()
	c.Backs = 0
	w := newWorld(t, c)
	w.does(api.In{What: api.InOpen, A: 1})
	w.gives(1, append([]byte(hello), bytesOf(t, get(1, 0), dataOf(1, 16384, 0), dataOf(1, 16384, api.FlagEnd))...))
	w.takes(1)
	w.writes(1, "SETTINGS 0", "SETTINGS 0", "HEADERS 1", "WINDOW 0 32768")
	w.gives(1, bytesOf(t, get(3, 0), dataOf(3, 16384, 0), dataOf(3, 16384, 0)))
	w.takes(1)
	w.writes(1, "HEADERS 3", "RST 3", "WINDOW 0 32768")
	w.gives(1, bytesOf(t, dataOf(3, 16384, 0), dataOf(3, 16384, 0))) // of one that was reset
	w.takes(1)
	w.writes(1, "WINDOW 0 32768")
}

// P22.2: a pair has room for as much as a client may send ahead of knowing better.
func TestPairBuffer(t *testing.T) {
	c := config()
	c.Buffer, c.Queue = 1, 1
	w := newWorld(t, c)
	w.ticks("dial 0", "dial 1")
	w.backs(0)
	w.runs()
	w.does(api.In{What: api.InOpen, A: 0})
	w.gives(0, []byte(hello))
	w.gives(0, bytesOf(t, get(1, 0), dataOf(1, 16384, 0), dataOf(1, 16384, 0), dataOf(1, 16384, 0), dataOf(1, 16383, 0)))
	w.is(1, 1, 0)
	held := w.p.Held()
	if held < 65535 {
		t.Fatalf("%d are held", held)
	}
	w.takes(0)
	w.forgets()
	w.takes(2)
	w.hears(2, "headers 1 via=2 aqueduct", "data 1 d")
	w.takes(2)
	w.hears(2, "data 1 d")
	w.takes(0)
	w.writes(0, "WINDOW 1 1", "WINDOW 1 1")
}

// P22.2: what comes of a stream that has a pair goes there: data, trailers, resets, faults.
func TestFrontEvents(t *testing.T) {
	w := begin(t, config())
	only(w, 0)
	w.asks(0, 0, false)
	w.asks(0, 0, false)
	w.asks(0, 0, false)
	w.runs()
	w.forgets()
	w.data(0, 1, "abc", false)
	w.heads(0, 1, list("x", "y"), true)
	w.data(0, 3, "d", true)
	w.resets(0, 5, api.CInternal)
	w.sends(0)
	w.is(2, 2, 0)
	w.runs()
	w.hears(2, "reset 5 code 8", "data 1 abc", "data 3 d end", "trailers 1 x=y end")
	w.asks(0, 0, false)
	w.runs()
	w.forgets()
	w.gives(0, bytesOf(t, api.Frame{Type: api.FWindow, Stream: 7, Inc: 1<<31 - 1})) // above what a window may be
	w.is(2, 2, 0)
	w.takes(0)
	w.hears(0, "reset 7 code 3")
	w.runs()
	w.hears(2, "reset 7 code 8")
}

// Streams of two clients have the same numbers, and nothing to do with each other.
func TestTwoClients(t *testing.T) {
	w := begin(t, config())
	only(w, 0)
	w.asks(1, 0, false, "x", "one")
	w.asks(0, 0, false, "x", "zero")
	w.data(1, 1, "from one", true)
	w.data(0, 1, "from zero", true)
	w.runs()
	w.hears(2, "headers 1 x=one via=2 aqueduct", "headers 3 x=zero via=2 aqueduct", "data 1 from one end", "data 3 from zero end")
	w.heads(2, 1, response("200", "x", "to one"), false)
	w.heads(2, 3, response("200", "x", "to zero"), true)
	w.data(2, 1, "more", true)
	w.runs()
	w.hears(0, "headers 1 :status=200 x=to zero via=2 aqueduct end")
	w.hears(1, "headers 1 :status=200 x=to one via=2 aqueduct", "data 1 more end")
	w.is(0, 0, 0)
}

// Of a client's GOAWAY nothing becomes.
func TestFrontGoaway(t *testing.T) {
	w := begin(t, config())
	w.asks(0, 0, false)
	w.peers[0].Goaway(api.CNone)
	w.sends(0)
	w.is(1, 1, 0)
	w.runs()
	w.heads(2, 1, response("200"), true)
	w.data(0, 1, "abc", true)
	w.runs()
	w.hears(2, "headers 1 via=2 aqueduct", "data 1 abc end")
	w.hears(0, "headers 1 :status=200 via=2 aqueduct end")
	w.open(0, 1, 2, 3)
}

// P22.2: a client's connection that fails: its pairs are lost, in their order, it stays till its fault is told; others are untouched (G3).
func TestFrontFault(t *testing.T) {
	w := begin(t, config())
	only(w, 1)
	w.asks(1, 0, false)
	w.asks(0, 0, false)
	w.asks(0, 0, true)
	w.asks(0, 0, false)
	w.runs()
	w.forgets()
	w.is(4, 0, 4)
	w.gives(0, garbage)
	w.is(1, 0, 1)
	w.open(0, 1, 3)
	w.takes(3)
	w.writes(3, "RST 3 8", "RST 5 8", "RST 7 8")
	w.sends(0)
	w.asks(1, 0, true)
	w.is(2, 0, 2)
	w.does(api.In{What: api.InOpen, A: 0}) // it is open still
	w.does(api.In{What: api.InBudget, A: 0, B: 16})
	w.open(0, 1, 3)
	w.takes(0, "close 0")
	w.writes(0, "GOAWAY 0 11") // stream 5, and the code 6
	w.open(1, 3)
	w.joins(0)
	w.open(0, 1, 3)
	w.is(2, 0, 2)
}

// P22.2: a client's connection that closes: its pairs are lost, and go.
func TestFrontGone(t *testing.T) {
	w := begin(t, config())
	w.asks(0, 0, false)
	w.asks(1, 0, true)
	w.asks(0, 0, true)
	w.runs()
	w.forgets()
	w.is(3, 2, 1)
	w.closes(0)
	w.is(1, 0, 1)
	w.open(1, 2, 3)
	w.takes(2)
	w.takes(3)
	w.writes(2, "RST 1 8", "RST 3 8")
	w.writes(3)
	w.joins(0)
	w.runs()
	w.forgets()
	w.asks(0, 0, true) // the same numbers, and another pair
	w.is(2, 1, 1)
	w.runs()
	w.heads(2, 5, response("204"), true)
	w.heads(3, 1, response("205"), true)
	w.runs()
	w.hears(0, "headers 1 :status=204 via=2 aqueduct end")
	w.hears(1, "headers 1 :status=205 via=2 aqueduct end")
	w.is(0, 0, 0)
}

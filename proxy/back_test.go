package proxy_test

import (
	"slices"
	"testing"

	"aqueduct/api"
)

// one lets a proxy have requests of both clients at its one backend that is up: at 2 stream 1 is that of client 1, 3 and 5 are those of client 0.
func one(t *testing.T, c api.Config) *world {
	t.Helper()
	w := begin(t, c)
	only(w, 0)
	w.asks(1, 0, false)
	w.asks(0, 0, true)
	w.asks(0, 0, false)
	w.runs()
	w.forgets()
	w.is(3, 3, 0)
	return w
}

// P22.2: what comes of a stream that has a pair goes there.
func TestBackEvents(t *testing.T) {
	w := one(t, config())
	w.heads(2, 1, response("103"), false)
	w.heads(2, 1, response("200", "set-cookie", "a=b"), false)
	w.data(2, 1, "abc", false)
	w.heads(2, 1, list("x", "y"), true)
	w.heads(2, 3, response("404"), true)
	w.resets(2, 5, api.CRefused)
	w.sends(2)
	w.is(1, 1, 0) // that of client 1 sends on
	w.runs()
	w.hears(1, "headers 1 :status=200 set-cookie=a=b! via=2 aqueduct", "data 1 abc", "trailers 1 x=y end")
	w.hears(0, "headers 1 :status=404 via=2 aqueduct end", "headers 3 :status=503 end", "reset 3 code 0")
	w.data(1, 1, "d", true)
	w.runs()
	w.is(0, 0, 0)
	w.asks(1, 0, true)
	w.asks(1, 0, true)
	w.runs()
	w.resets(2, 7, api.CNone)
	w.gives(2, bytesOf(t, api.Frame{Type: api.FWindow, Stream: 9, Inc: 1<<31 - 1})) // above what a window may be
	w.runs()
	w.hears(1, "headers 5 :status=502 end", "headers 3 :status=502 end")
	w.is(0, 0, 0)
}

// A pair goes with its last event, be that one of bytes that go out.
func TestPairEnds(t *testing.T) {
	w := one(t, config())
	w.heads(2, 3, response("200"), false)
	w.data(2, 3, "abc", true)
	w.sends(2)
	w.is(3, 3, 0)
	w.does(api.In{What: api.InBudget, A: 0, B: 20})
	w.is(3, 3, 0)
	w.takes(0)
	w.is(2, 2, 0)
	w.hears(0, "headers 1 :status=200 via=2 aqueduct", "data 1 abc end")
}

// P22.2: behind each Do, pairs move in the order of their fronts, not of their backs.
func TestOrderOfMoves(t *testing.T) {
	w := one(t, config())
	for _, id := range []int{1, 3, 5} {
		w.heads(2, id, response("200"), false)
		w.data(2, id, "0123456789012345678901234567890123456789012345678901234567890123456789", false)
	}
	w.sends(2)
	w.takes(2)
	w.writes(2, "WINDOW 3 70", "WINDOW 5 70", "WINDOW 1 70")
}

// Any event lets pairs move, also one that is none.
func TestAllMove(t *testing.T) {
	c := config()
	c.Queue = 60
	w := one(t, c)
	w.heads(2, 1, response("200"), false)
	w.data(2, 1, "0123456789012345678901234567890123456789012345678901234567890123456789", false)
	w.sends(2)
	w.takes(2)
	w.writes(2, "WINDOW 1 60")
	w.data(2, 1, "01234567890123456789012345678901234567890123456789", false)
	w.sends(2)
	w.takes(1)
	w.takes(2)
	w.writes(2, "WINDOW 1 60")
	w.does(api.In{What: 99})
	w.takes(1)
	w.hears(1, "headers 1 :status=200 via=2 aqueduct", "data 1 60 bytes", "data 1 60 bytes")
}

// P22.2: a backend's connection that fails: its pairs are lost and count no more; it stays till its fault is told. Others are untouched (G3).
func TestBackFault(t *testing.T) {
	w := begin(t, config())
	w.asks(0, 0, true)
	w.asks(0, 0, true)
	w.asks(1, 0, false)
	w.is(3, 2, 1)
	w.runs()
	w.heads(2, 3, response("200"), false)
	w.runs()
	w.forgets()
	w.gives(2, garbage)
	w.is(1, 0, 1)
	w.open(0, 1, 2, 3)
	w.takes(0)
	w.takes(1)
	w.takes(3)
	w.hears(0, "headers 1 :status=502 end")
	w.hears(1, "reset 1 code 2")
	w.hears(3)
	w.asks(1, 0, true)
	w.asks(1, 0, true)
	w.is(3, 0, 3)
	w.does(api.In{What: api.InBudget, A: 2, B: 16})
	w.open(0, 1, 2, 3)
	w.takes(2, "close 2")
	w.open(0, 1, 3)
	w.writes(2, "GOAWAY 0 6")
	w.sends(2)
	w.ticks("dial 0") // it has failed once
	w.does(api.In{What: api.InBack, A: 0})
	w.ticks()
	w.ticks("dial 0")
	w.is(3, 0, 3)
}

// A backend that fails ahead of its settings is down, too.
func TestBackFaultAtFirst(t *testing.T) {
	w := newWorld(t, config())
	w.ticks("dial 0", "dial 1")
	w.backs(1)
	w.gives(3, garbage)
	w.open(3)
	w.ticks("dial 1")
	w.backs(1) // a new connection stands in the place of the one that has failed
	w.open(3)
	w.runs()
	w.hears(3, "open 0")
	w.open(3)
}

// P22.2: one that has failed and is dialled again may be replaced ahead of its end.
func TestBackReplaced(t *testing.T) {
	w := one(t, config())
	w.gives(2, garbage)
	w.is(0, 0, 0)
	w.ticks("dial 1", "dial 0")
	w.open(0, 1, 2)
	w.talks(0, 1)
	w.forgets()
	w.backs(0)
	w.open(0, 1, 2)
	w.runs()
	w.hears(2, "open 0")
	w.asks(0, 0, true)
	w.is(1, 1, 0)
	w.runs()
	w.hears(2, "headers 1 via=2 aqueduct end")
	w.open(0, 1, 2)
}

// talks is runs for some alone.
func (w *world) talks(l ...int) {
	w.t.Helper()
	for _, n := range l {
		w.sends(n)
		w.takes(n)
	}
}

// P22.2, word by word: when one that has failed is gone at last, its backend has failed, also while it is dialled again.
func TestBackGoneWhileDialled(t *testing.T) {
	w := one(t, config())
	w.gives(2, garbage)
	w.ticks("dial 1", "dial 0")
	w.takes(2, "close 2")
	w.open(0, 1)
	w.does(api.In{What: api.InBack, A: 0, B: 1}) // it is not dialled any more
	w.open(0, 1)
	w.ticks() // it was the second failure: the wait is 2
	w.ticks("dial 0")
	w.backs(0)
	w.open(0, 1, 2)
}

// The same of one that closes by itself.
func TestFailedCloses(t *testing.T) {
	w := one(t, config())
	w.gives(2, garbage)
	w.closes(2)
	w.open(0, 1)
	w.does(api.In{What: api.InBudget, A: 2, B: most})
	w.ticks("dial 1", "dial 0")
	w.does(api.In{What: api.InBack, A: 0})
	w.ticks()
	w.ticks("dial 0")
}

// P22.2: a backend's connection that closes: its pairs are lost, and are told 502, or reset.
func TestBackGone(t *testing.T) {
	w := one(t, config())
	w.heads(2, 1, response("200"), false)
	w.data(2, 1, "abc", false)
	w.runs()
	w.closes(2)
	w.is(0, 0, 0)
	w.open(0, 1)
	w.takes(0)
	w.takes(1)
	w.hears(0, "headers 1 :status=502 end", "headers 3 :status=502 end", "reset 3 code 0")
	w.hears(1, "headers 1 :status=200 via=2 aqueduct", "data 1 abc", "reset 1 code 2")
	refused(w, 1, "503")
	w.ticks("dial 1", "dial 0")
	w.does(api.In{What: api.InBack, A: 0})
	w.ticks()
	w.ticks("dial 0")
}

// left lets a backend's connection go when a whole response of it is on its way still.
func left(t *testing.T) *world {
	t.Helper()
	c := config()
	c.Queue = 30
	w := begin(t, c)
	only(w, 0)
	w.asks(0, 0, true)
	w.runs()
	w.forgets()
	w.heads(2, 1, response("200"), false)
	w.data(2, 1, "0123456789012345678901234567890123456789012345678901234567890123456789", true)
	w.sends(2)
	w.closes(2)
	return w
}

// P22.2, P22.3: a pair whose response has come goes on without its backend, for which it does not count.
func TestPairLeft(t *testing.T) {
	w := left(t)
	w.is(1, 0, 0)
	w.takes(0)
	w.is(1, 0, 0)
	w.takes(0)
	w.is(1, 0, 0)
	w.takes(0)
	w.hears(0, "headers 1 :status=200 via=2 aqueduct", "data 1 30 bytes", "data 1 30 bytes", "data 1 0123456789 end")
	w.is(0, 0, 0)
}

// What comes on the next connection to the same backend has nothing to do with such a pair, though the streams' numbers are the same.
func TestPairLeftBehind(t *testing.T) {
	w := left(t)
	w.ticks("dial 1", "dial 0")
	w.backs(0)
	w.talks(2, 2)
	w.asks(1, 0, false)
	w.is(2, 1, 0)
	w.talks(2)
	w.heads(2, 1, response("204"), false)
	w.data(2, 1, "new", false)
	w.talks(2, 1)
	w.forgets()
	w.is(2, 1, 0)
	w.resets(2, 1, api.CInternal)
	w.talks(2, 1)
	w.hears(1, "reset 1 code 2")
	w.is(1, 0, 0)
	w.asks(1, 0, false)
	w.is(2, 1, 0)
	w.closes(2) // the new one's pairs are lost, and only they
	w.is(1, 0, 0)
	for range 3 {
		w.takes(0)
	}
	w.hears(0, "headers 1 :status=200 via=2 aqueduct", "data 1 30 bytes", "data 1 30 bytes", "data 1 0123456789 end")
	w.is(0, 0, 0)
}

// P22.2: when such a pair goes, that gives no slot back, as it counts no more.
func TestPairLeftHasNoSlot(t *testing.T) {
	w := left(t)
	s := peer(true)
	s.Streams = 1
	w.setups[2] = s
	w.ticks("dial 1", "dial 0")
	w.backs(0)
	w.talks(2, 2)
	w.asks(1, 0, false)
	w.is(2, 1, 0)
	for range 3 {
		w.takes(0)
	}
	w.is(1, 1, 0)
	w.gives(2, bytesOf(t, settingsOf(9))) // the connection has more room than the backend has slots
	refused(w, 1, "503")
	w.is(1, 1, 0)
	w.resets(1, 1, api.CCancel)
	w.sends(1)
	w.is(0, 0, 0)
	w.asks(1, 0, false)
	w.is(1, 1, 0)
}

// A client that goes lets such a pair go.
func TestPairLeftByBoth(t *testing.T) {
	w := left(t)
	w.closes(0)
	w.is(0, 0, 0)
}

// P22.2: a backend that goes away takes no more requests; when it has none its connection is closed, and it is dialled again.
func TestDrain(t *testing.T) {
	w := one(t, config())
	w.peers[2].Goaway(api.CNone)
	w.sends(2)
	w.is(3, 3, 0)
	w.open(0, 1, 2)
	refused(w, 1, "503")
	w.ticks("dial 1")
	w.ticks()
	w.heads(2, 3, response("200"), true)
	w.heads(2, 5, response("200"), false)
	w.data(2, 5, "abc", true)
	w.sends(2)
	w.is(2, 2, 0)
	w.heads(2, 1, response("200"), true)
	w.data(0, 3, "abc", true)
	w.data(1, 1, "def", true)
	w.sends(0)
	w.sends(1)
	w.sends(2)
	w.is(2, 2, 0)
	w.takes(0)
	w.takes(1)
	w.open(0, 1, 2)
	w.takes(2, "close 2")
	w.is(0, 0, 0)
	w.open(0, 1)
	w.hears(2, "data 1 def end", "data 5 abc end")
	w.does(api.In{What: api.InBudget, A: 2, B: most})
	w.ticks("dial 0")
	w.backs(0)
	w.runs()
	w.forgets()
	w.asks(0, 0, true)
	w.is(1, 1, 0)
	w.open(0, 1, 2)
}

// A backend that drains has not failed: the next failure is waited out as the first one.
func TestDrainIsNoFailure(t *testing.T) {
	w := begin(t, config())
	w.gives(2, bytesOf(t, api.Frame{Type: api.FGoaway}), "close 2")
	w.open(0, 1, 3)
	w.ticks("dial 0")
	w.does(api.In{What: api.InBack, A: 0})
	w.ticks("dial 0")
	w.does(api.In{What: api.InBack, A: 0})
	w.ticks()
	w.ticks("dial 0")
}

// P22.2: with nothing to wait for it is closed at once, even ahead of its settings.
func TestDrainAtOnce(t *testing.T) {
	w := begin(t, config())
	w.peers[3].Goaway(api.CInternal)
	w.sends(3, "close 3")
	w.open(0, 1, 2)
	w.asks(0, 1, true)
	w.is(1, 1, 0)
	w.gives(2, bytesOf(t, api.Frame{Type: api.FGoaway, Last: 1}))
	w.open(0, 1, 2)
	refused(w, 1, "503")
	w.ticks("dial 1")
	w.backs(1)
	w.gives(3, bytesOf(t, settingsOf(5), api.Frame{Type: api.FGoaway}), "close 3")
	w.open(0, 1, 2)
}

// Streams that the backend has not looked at are told 503; when these were all it is closed.
func TestDrainRefuses(t *testing.T) {
	w := one(t, config())
	w.gives(2, bytesOf(t, api.Frame{Type: api.FGoaway, Last: 3}))
	w.is(2, 2, 0)
	w.takes(0)
	w.hears(0, "headers 3 :status=503 end", "reset 3 code 0")
	w.gives(2, bytesOf(t, api.Frame{Type: api.FGoaway}), "close 2")
	w.is(0, 0, 0)
	w.takes(0)
	w.takes(1)
	w.hears(0, "headers 1 :status=503 end")
	w.hears(1, "headers 1 :status=503 end", "reset 1 code 0")
	w.open(0, 1)
}

// A backend that drains is closed, too, when its clients go.
func TestDrainByClients(t *testing.T) {
	w := one(t, config())
	w.peers[2].Goaway(api.CNone)
	w.sends(2)
	w.closes(0)
	w.open(1, 2)
	w.does(api.In{What: api.InClose, A: 1}, "close 2")
	w.open()
}

// P22.2: backends that have drained at the same event are closed as they rise; their pairs went in their own order, by which they are dialled.
func TestDrainOrder(t *testing.T) {
	w := begin(t, config())
	w.asks(0, 1, true)
	w.asks(0, 1, true)
	w.runs()
	w.is(2, 1, 1)
	w.peers[2].Goaway(api.CNone)
	w.peers[3].Goaway(api.CNone)
	w.sends(2)
	w.sends(3)
	w.does(api.In{What: api.InClose, A: 0}, "close 2", "close 3")
	w.open(1)
	w.ticks("dial 1", "dial 0")
}

// A backend that drains and fails is one that fails: it stays till its fault is told.
func TestDrainAndFail(t *testing.T) {
	w := one(t, config())
	w.peers[2].Goaway(api.CNone)
	w.sends(2)
	w.gives(2, garbage)
	w.is(0, 0, 0)
	w.open(0, 1, 2)
	w.takes(2, "close 2")
	w.open(0, 1)
	if s := w.wrote(2); !slices.Equal(s, []string{"GOAWAY 0 6"}) {
		t.Errorf("it writes %q", s)
	}
	w.takes(0)
	w.takes(1)
	w.hears(0, "headers 1 :status=502 end", "headers 3 :status=502 end", "reset 3 code 0")
	w.hears(1, "headers 1 :status=502 end", "reset 1 code 0")
	w.ticks("dial 1", "dial 0")
}

// One that drains and closes is gone: nobody needs to close it.
func TestDrainAndClose(t *testing.T) {
	w := one(t, config())
	w.peers[2].Goaway(api.CNone)
	w.sends(2)
	w.closes(2)
	w.is(0, 0, 0)
	w.open(0, 1)
	w.ticks("dial 1", "dial 0")
}

// A response that ends in the same bytes as a GOAWAY goes out whole.
func TestDrainBehindResponse(t *testing.T) {
	w := one(t, config())
	w.resets(1, 1, api.CCancel)
	w.resets(0, 3, api.CCancel)
	w.sends(0)
	w.sends(1)
	w.is(1, 1, 0)
	w.heads(2, 3, response("200"), false)
	w.data(2, 3, "abc", true)
	w.peers[2].Goaway(api.CNone)
	w.sends(2)
	w.is(1, 1, 0)
	w.takes(0, "close 2")
	w.hears(0, "headers 1 :status=200 via=2 aqueduct", "data 1 abc end")
	w.is(0, 0, 0)
	w.open(0, 1)
}

// P22.4, G8: a request reaches one backend; when that one fails the other is not asked.
func TestOneBackend(t *testing.T) {
	w := begin(t, config())
	w.asks(0, 1, true)
	w.runs()
	w.hears(3, "headers 1 via=2 aqueduct end")
	w.resets(3, 1, api.CRefused)
	w.runs()
	w.hears(2)
	w.hears(0, "headers 1 :status=503 end")
	w.asks(0, 1, true)
	w.runs()
	w.hears(3, "headers 3 via=2 aqueduct end")
	w.closes(3)
	w.runs()
	w.hears(2)
	w.hears(0, "headers 3 :status=502 end")
}

package relay_test

import (
	"slices"
	"strconv"
	"strings"
	"testing"

	"aqueduct/api"
	"aqueduct/conn"
	"aqueduct/frame"
)

// written tells the frames that a connection has to write, which go to its peer then.
func written(t *testing.T, from, to *conn.Conn) []string {
	t.Helper()
	b := from.Out(most)
	if _, e := to.In(b); e != api.OK {
		t.Fatalf("In = %d", e)
	}
	var l []string
	for len(b) > 0 {
		f, n, bad, e := frame.Parse(b, api.MaxFrame)
		if bad.Is || e != api.OK {
			t.Fatalf("Parse = %v, %d", bad, e)
		}
		names := []string{"DATA", "HEADERS", "PRIORITY", "RST", "SETTINGS", "PUSH", "PING", "GOAWAY", "WINDOW", "CONTINUATION"}
		text := names[f.Type] + " " + strconv.Itoa(f.Stream)
		if f.Inc > 0 {
			text += " inc " + strconv.Itoa(f.Inc)
		}
		l = append(l, text)
		b = b[n:]
	}
	return l
}

func (k *chain) frontWrites(want ...string) {
	k.t.Helper()
	if got := written(k.t, k.front, k.client); !slices.Equal(got, want) {
		k.t.Fatalf("the front writes %q, want %q", got, want)
	}
}

func (k *chain) backWrites(want ...string) {
	k.t.Helper()
	if got := written(k.t, k.back, k.server); !slices.Equal(got, want) {
		k.t.Fatalf("the back writes %q, want %q", got, want)
	}
}

// narrow is a plan whose connections let so many bytes wait.
func narrow(queue int) plan {
	s := plan{front: setup(true), back: setup(false)}
	s.front.Queue, s.back.Queue = queue, queue
	return s
}

// P21.3: as many bytes as have room are handed on, and the end with the last of them.
func TestMoveRoom(t *testing.T) {
	k := begin(t, narrow(5))
	k.frontIs(dataOf(atFront, "0123456789ab", true), api.OK)
	k.moves(5)
	k.is(false, false, 7)
	k.moves(0)
	k.serverHears("data 3 01234")
	k.moves(5)
	k.moves(0)
	k.is(false, false, 2)
	k.serverHears("data 3 56789")
	k.moves(2)
	k.moves(0)
	k.is(false, false, 0)
	k.serverHears("data 3 ab end")
	k.moves(0)
	k.quiet()

	k = begin(t, narrow(5))
	k.responds(false)
	k.backIs(dataOf(atBack, "0123456789", true), api.OK)
	k.frontIs(dataOf(atFront, "0123", false), api.OK)
	k.moves(9) // both ways together
	k.serverHears("data 3 0123")
	k.clientHears("data 1 01234")
	k.frontIs(dataOf(atFront, "456", true), api.OK)
	k.moves(8)
	k.serverHears("data 3 456 end")
	k.clientHears("data 1 56789 end")
}

// P21.3: no room at all.
func TestMoveNoRoom(t *testing.T) {
	k := begin(t, narrow(0))
	k.frontIs(dataOf(atFront, "a", true), api.OK)
	k.moves(0)
	k.is(false, false, 1)
	k.quiet()
	k = begin(t, narrow(0))
	k.frontIs(dataOf(atFront, "", true), api.OK)
	k.moves(0)
	k.is(false, false, 0)
	k.serverHears("data 3 end")
}

// P21.3: an end by itself, once, and the other way's as well.
func TestMoveEnd(t *testing.T) {
	k := begin(t, plan{})
	k.frontIs(dataOf(atFront, "abc", false), api.OK)
	k.moves(3)
	k.serverHears("data 3 abc")
	k.moves(0)
	k.serverHears()
	k.frontIs(dataOf(atFront, "", true), api.OK)
	for range 3 {
		k.moves(0)
	}
	k.serverHears("data 3 end")
	k.moves(0)
	k.quiet()
	k.responds(false)
	k.sends(k.server, atBack, "", true)
	k.down()
	for range 3 {
		k.moves(0)
	}
	k.clientHears("data 1 end")
	k.moves(0)
	k.quiet()
	k.is(false, true, 0) // the client has not ended
	k.sends(k.client, atFront, "", true)
	pass(t, k.client, k.front)
	k.is(true, true, 0)
}

// P21.1, P21.3: an end that was handed on is not asked for again, so that a stream which is closed by then is over by what has come of it alone.
func TestMoveEndOnce(t *testing.T) {
	for _, c := range []struct {
		ended bool
		ends  func(k *chain)
	}{
		{true, func(k *chain) {}},
		{false, func(k *chain) { k.sends(k.client, atFront, "", true) }},
		{false, func(k *chain) { k.heads(k.client, atFront, list("x", "y"), true) }},
	} {
		s := narrow(5)
		s.ended = c.ended
		k := begin(t, s)
		c.ends(k)
		k.up()
		k.moves(0)
		pass(t, k.back, k.server)
		k.responds(false)
		k.sends(k.server, atBack, "0123456", true)
		k.down()
		if k.back.State(atBack) != api.SClosed {
			t.Fatalf("the back is %d", k.back.State(atBack))
		}
		k.moves(5)
		k.moves(0)
		k.resets(k.front, atFront, api.CCancel)
		k.is(false, true, 2) // the front is over, the back has bytes still
		k.moves(0)
		k.is(true, true, 0)
	}

	k := begin(t, narrow(5))
	k.sends(k.client, atFront, "0123456", true)
	k.up()
	k.moves(5)
	k.responds(true)
	if k.front.State(atFront) != api.SClosed {
		t.Fatalf("the front is %d", k.front.State(atFront))
	}
	k.moves(0)
	k.lostIs(false, api.OK)
	k.is(false, true, 2) // the back is over, the front has bytes still
	k.moves(0)
	k.is(true, true, 0)
}

// P21.3: trailers go behind the last byte, once, and have the end with them.
func TestMoveTrailers(t *testing.T) {
	k := begin(t, narrow(5))
	k.frontIs(dataOf(atFront, "0123456", false), api.OK)
	k.frontIs(tailOf(atFront, list("x", "y")), api.OK)
	k.moves(5)
	k.serverHears("data 3 01234")
	k.moves(2)
	k.moves(0)
	k.serverHears("data 3 56", "trailers 3 x=y end")
	k.moves(0)
	k.quiet()
	k = begin(t, narrow(0))
	k.responds(false)
	k.backIs(tailOf(atBack, nil), api.OK)
	k.moves(0)
	k.clientHears("trailers 1 end")
	k.moves(0)
	k.quiet()
}

// P21.3: trailers that the connection does not take are gone; the end was not handed on with them.
func TestMoveTrailersRefused(t *testing.T) {
	var many []api.Header
	for range api.MaxHeaders + 1 {
		many = append(many, list("a", "b")...)
	}
	k := begin(t, plan{})
	k.frontIs(dataOf(atFront, "abc", false), api.OK)
	k.frontIs(tailOf(atFront, many), api.OK)
	k.moves(3)
	k.serverHears("data 3 abc")
	k.moves(0)
	k.serverHears("data 3 end")
	k.moves(0)
	k.quiet()
}

// P21.3: nothing goes to the front ahead of a response, not even what nobody waits for.
func TestMoveAhead(t *testing.T) {
	k := begin(t, plan{})
	k.backIs(dataOf(atBack, "abc", false), api.OK)
	k.moves(0)
	k.is(false, false, 3)
	k.frontIs(resetOf(atFront, 0), api.OK)
	k.moves(0)
	k.is(true, false, 3)

	k = begin(t, plan{})
	k.backIs(dataOf(atBack, "abc", false), api.OK)
	k.backIs(tailOf(atBack, list("x", "y")), api.OK)
	k.moves(0)
	k.quiet()
	k.backIs(headOf(atBack, response("200"), false), api.OK)
	k.moves(3)
	k.clientHears("headers 1 :status=200 via=2 aqueduct", "data 1 abc", "trailers 1 x=y end")
}

// P21.3: what was handed on is used at the side that it came from, neither earlier nor more of it.
func TestMoveUsed(t *testing.T) {
	k := begin(t, narrow(49)) // half the window is 50
	k.sends(k.client, atFront, strings.Repeat("x", 100), false)
	k.up()
	k.frontWrites()
	k.moves(49)
	k.frontWrites()
	k.serverHears("data 3 49 bytes")
	k.moves(49)
	k.frontWrites("WINDOW 1 inc 98")
	if e := k.front.Used(atFront, 3); e != api.ErrArg {
		t.Errorf("Used = %d: 2 are held", e)
	}
	if e := k.front.Used(atFront, 2); e != api.OK {
		t.Errorf("Used = %d: 2 are held", e)
	}

	k = begin(t, narrow(49))
	k.responds(false)
	k.sends(k.server, atBack, strings.Repeat("x", 100), true)
	k.down()
	k.moves(49)
	k.clientHears("data 1 49 bytes")
	k.backWrites()
	if e := k.back.Used(atBack, 52); e != api.ErrArg {
		t.Errorf("Used = %d: 51 are held", e)
	}
	k.moves(49)
	k.clientHears("data 1 49 bytes")
	k.moves(2)
	if e := k.back.Used(atBack, 1); e != api.ErrArg {
		t.Errorf("Used = %d: none is held", e)
	}
}

// P21.3: of a side that is over all goes that would go there, and is used at the other one.
func TestMoveSpills(t *testing.T) {
	k := begin(t, plan{})
	k.responds(true)
	k.sends(k.client, atFront, strings.Repeat("x", 100), false)
	k.up()
	k.is(false, true, 100)
	k.backIs(resetOf(atBack, api.CNone), api.OK)
	k.moves(0)
	k.is(false, true, 0)
	k.frontWrites("WINDOW 1 inc 100")
	k.serverHears()

	k = begin(t, plan{})
	k.responds(false)
	k.sends(k.server, atBack, strings.Repeat("x", 100), false)
	k.down()
	k.frontIs(resetOf(atFront, api.CNone), api.OK)
	k.backWrites("RST 3")
	k.moves(0)
	k.is(true, true, 0)
	k.quiet()
}

// P21.3: data that a stream holds which both ends have ended are given back to the connection, though the pair is over.
func TestMoveSpillsOver(t *testing.T) {
	s := plan{ended: true, back: setup(false)}
	s.back.Window = api.Window
	k := begin(t, s)
	k.responds(false)
	body := strings.Repeat("x", 299)
	for range 109 { // about half of the connection's window
		k.sends(k.server, atBack, body, false)
		pass(t, k.server, k.back)
	}
	k.sends(k.server, atBack, body, true)
	for _, e := range pass(t, k.server, k.back) {
		k.backIs(e, api.OK)
	}
	if e := k.back.Used(atBack, 109*299); e != api.OK || k.back.State(atBack) != api.SClosed {
		t.Fatalf("Used = %d, the back is %d", e, k.back.State(atBack))
	}
	k.backWrites()
	k.frontIs(resetOf(atFront, api.CCancel), api.OK)
	k.is(true, true, 299)
	k.moves(0)
	k.is(true, true, 0)
	k.backWrites("WINDOW 0 inc " + strconv.Itoa(110*299))
	if e := k.back.Used(atBack, 0); e != api.ErrNone {
		t.Errorf("Used = %d: the back is known still", e)
	}
}

// P21.3: the way to the back goes first.
func TestMoveOrder(t *testing.T) {
	k := begin(t, plan{})
	k.responds(false)
	k.sends(k.client, atFront, strings.Repeat("x", 100), false)
	k.up()
	k.backIs(tailOf(atBack, list("x", "y")), api.OK)
	k.moves(100)
	k.frontWrites("WINDOW 1 inc 100", "HEADERS 1")
}

// halfGone lets the back be closed by both ends, past the pair, and known still, since data are held; then the client goes on.
func halfGone(t *testing.T) *chain {
	t.Helper()
	k := begin(t, plan{})
	k.sends(k.back, atBack, "", true)
	k.serverHears("data 3 end")
	k.responds(false)
	k.sends(k.server, atBack, "held", true)
	k.down()
	if k.back.State(atBack) != api.SClosed || k.back.Used(atBack, 0) != api.OK || k.back.Room(atBack) == 0 {
		t.Fatalf("the back is %d, with room for %d", k.back.State(atBack), k.back.Room(atBack))
	}
	return k
}

// P21.3: a side whose connection does not take data, or trailers, since the stream is closed, is over.
func TestMoveNone(t *testing.T) {
	k := halfGone(t)
	k.sends(k.client, atFront, "abc", true)
	k.up()
	k.is(false, true, 7)
	k.moves(4) // what came from the back goes on
	k.is(false, true, 3)
	k.clientHears("data 1 held end")
	k.is(false, true, 3)
	k.moves(0)
	k.is(true, true, 0)
	k.quiet()

	k = halfGone(t)
	k.sends(k.client, atFront, "", false)
	k.heads(k.client, atFront, list("x", "y"), true)
	k.up()
	k.is(false, true, 4)
	k.moves(4)
	k.is(false, true, 0)
	k.clientHears("data 1 held end")
	k.is(true, true, 0)
	k.quiet()
}

// P21.3: where no byte has room nothing is asked, and so a stream that is not known is not found out. Its side is over once its response is through.
func TestMoveUnasked(t *testing.T) {
	k := begin(t, plan{})
	k.resets(k.back, atBack, api.CCancel)
	k.frontIs(dataOf(atFront, "abc", true), api.OK)
	k.moves(0)
	k.is(false, false, 3)
	k.backIs(headOf(atBack, response("200"), true), api.OK)
	k.is(false, true, 3)
	k.moves(0)
	k.is(false, true, 0)
	k.serverHears("reset 3 code 8")
}

// P21.3: an end, or trailers, to a stream that is not known; nothing is asked where there is neither.
func TestMoveNoneEnds(t *testing.T) {
	for _, e := range []api.Event{dataOf(atFront, "", true), tailOf(atFront, nil)} {
		k := begin(t, plan{})
		k.resets(k.back, atBack, api.CCancel)
		k.moves(0)
		k.is(false, false, 0)
		k.backIs(headOf(atBack, response("200"), false), api.OK)
		k.frontIs(e, api.OK)
		k.moves(0)
		k.is(false, true, 0)
		k.resets(k.front, atFront, api.CCancel)
		k.is(true, true, 0) // the pump to the front is open, but the back is over
		k.serverHears("reset 3 code 8")
	}
}

// P21.3: data that a connection refuses for another reason stay.
func TestMoveState(t *testing.T) {
	k := begin(t, plan{})
	k.sends(k.back, atBack, "", true)
	k.frontIs(dataOf(atFront, "abc", true), api.OK)
	for range 2 {
		k.moves(0)
		k.is(false, false, 3)
	}
	k.serverHears("data 3 end")
	if e := k.front.Used(atFront, 1); e != api.ErrArg {
		t.Errorf("Used = %d", e)
	}
}

// Words: a side is over if its stream is closed there and the pump from it is empty and not open; each of these by itself is not enough.
func TestOverBySteps(t *testing.T) {
	k := begin(t, narrow(5))
	k.sends(k.client, atFront, "0123456", true)
	k.up()
	k.responds(true)
	if k.front.State(atFront) != api.SClosed || k.back.State(atBack) == api.SClosed {
		t.Fatalf("the front is %d, the back %d", k.front.State(atFront), k.back.State(atBack))
	}
	k.lostIs(false, api.OK)
	k.is(false, true, 7) // the front is closed, but its pump is not empty
	k.moves(0)
	k.is(true, true, 0)

	k = begin(t, plan{ended: true})
	k.responds(false)
	k.sends(k.server, atBack, "abc", true)
	k.down()
	if k.back.State(atBack) != api.SClosed {
		t.Fatalf("the back is %d", k.back.State(atBack))
	}
	k.is(false, true, 3)
	k.moves(3)
	k.is(false, true, 0) // the back is over, the front has the end to write
	k.clientHears("data 1 abc end")
	k.is(true, true, 0)

	k = begin(t, plan{})
	k.responds(true)
	k.lostIs(false, api.OK)
	k.resets(k.front, atFront, api.CCancel)
	k.is(false, true, 0) // closed, and the pump is empty, but open
	k.frontIs(dataOf(atFront, "", true), api.OK)
	k.is(true, true, 0)
}

// G5: a pair whose receiver gives no credit holds no other one up.
func TestNoCredit(t *testing.T) {
	k := begin(t, plan{})
	k.sends(k.client, atFront, strings.Repeat("x", 100), false)
	k.up()
	k.moves(100)
	pass(t, k.front, k.client)
	k.serverHears("data 3 100 bytes")
	for range 7 { // the server uses none of it: the queue is full, then the pump
		k.sends(k.client, atFront, strings.Repeat("x", 100), false)
		k.up()
		k.p.Move()
		pass(t, k.front, k.client)
		k.serverHears()
	}
	if k.is(false, false, 100); k.back.Waiting() != 300 || k.client.Waiting() != 300 {
		t.Errorf("%d wait at the back, %d at the client", k.back.Waiting(), k.client.Waiting())
	}
	k.opens(k.client, false, 3)
	k.sends(k.client, 3, "another", true)
	l := pass(t, k.client, k.front)
	if len(l) != 2 || told(l[1]) != "data 3 another end" {
		t.Errorf("the front tells %v", l)
	}
}

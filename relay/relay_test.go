package relay_test

import (
	"math"
	"slices"
	"strings"
	"testing"

	"aqueduct/api"
	"aqueduct/conn"
	"aqueduct/relay"
)

// numbers are such that are no stream's.
var numbers = []int{math.MinInt, -1, 0, 2, 4, 99, api.MaxID, math.MaxInt}

// The examples of the chapter.
func TestExamples(t *testing.T) {
	k := begin(t, plan{})
	k.frontIs(dataOf(atFront, "abc", false), api.OK)
	k.moves(3)
	k.serverHears("data 3 abc")

	k = begin(t, plan{})
	k.backIs(resetOf(atBack, api.CRefused), api.OK)
	k.clientHears("headers 1 :status=503 end", "reset 1 code 0")
}

// P21.1: of no connection, whatever else there is.
func TestNewOfNothing(t *testing.T) {
	k := begin(t, plan{})
	for _, none := range []*conn.Conn{nil, {}, new(conn.Conn)} {
		for _, c := range []struct {
			front  *conn.Conn
			a      int
			back   *conn.Conn
			b      int
			buffer int
		}{
			{none, atFront, k.back, atBack, 9}, {k.front, atFront, none, atBack, 9}, {none, atFront, none, atBack, 9},
			{none, -1, k.back, 99, -1}, {k.front, 99, none, -1, api.MaxPump + 1}, {none, 0, none, 0, -1},
		} {
			if p, e := relay.New(c.front, c.a, c.back, c.b, c.buffer); p != nil || e != api.ErrZero {
				t.Errorf("New of %d and %d, %d = %v, %d, want ErrZero", c.a, c.b, c.buffer, p, e)
			}
		}
	}
	k.quiet()
}

// newIs tries to make a further pair.
func (k *chain) newIs(x, y, buffer int, want api.Errno) {
	k.t.Helper()
	if p, e := relay.New(k.front, x, k.back, y, buffer); e != want || (p != nil) != (want == api.OK) {
		k.t.Errorf("New of %d and %d, %d = %v, %d, want %d", x, y, buffer, p, e, want)
	}
}

// P21.1: both streams are known, and not closed.
func TestNewStreams(t *testing.T) {
	k := begin(t, plan{})
	k.newIs(atFront, atBack, 9, api.OK)
	for _, n := range numbers {
		k.newIs(n, atBack, 9, api.ErrArg)
		k.newIs(atFront, n, 9, api.ErrArg)
		k.newIs(n, n, 9, api.ErrArg)
	}
	k.newIs(atBack, atBack, 9, api.ErrArg)
	k.quiet()
	for _, closes := range []func(k *chain){
		func(k *chain) { k.resets(k.front, atFront, api.CCancel) },
		func(k *chain) { k.resets(k.back, atBack, api.CCancel) },
		func(k *chain) {
			k.resets(k.client, atFront, api.CCancel)
			pass(t, k.client, k.front)
		},
		func(k *chain) { k.front.In([]byte("no frame at all")) },
		func(k *chain) { k.back.In([]byte("no frame at all")) },
		func(k *chain) { // data are held still of the one that is closed
			k.sends(k.back, atBack, "", true)
			k.serverHears("data 3 end")
			k.heads(k.server, atBack, response("200"), false)
			k.sends(k.server, atBack, "held", true)
			pass(t, k.server, k.back)
			if k.back.State(atBack) != api.SClosed || k.back.Used(atBack, 0) != api.OK {
				t.Errorf("the back is %d", k.back.State(atBack))
			}
		},
	} {
		k := begin(t, plan{})
		closes(k)
		k.newIs(atFront, atBack, 9, api.ErrArg)
	}
}

// P21.1: streams that are half closed are known.
func TestNewHalves(t *testing.T) {
	k := begin(t, plan{})
	k.sends(k.client, atFront, "", true)
	pass(t, k.client, k.front)
	k.newIs(atFront, atBack, 9, api.OK)
	k.heads(k.server, atBack, response("200"), true)
	pass(t, k.server, k.back)
	k.newIs(atFront, atBack, 9, api.OK)
	k = begin(t, plan{})
	k.heads(k.front, atFront, response("200"), true)
	k.newIs(atFront, atBack, 9, api.OK)
}

// P21.1: the bounds of the buffer, which both ways have.
func TestNewBuffer(t *testing.T) {
	for _, n := range []int{math.MinInt, -1, api.MaxPump + 1, math.MaxInt} {
		begin(t, plan{}).newIs(atFront, atBack, n, api.ErrArg)
	}
	for _, n := range []int{1, 2, 100, api.MaxPump} {
		k := begin(t, plan{buffer: n})
		k.frontIs(dataOf(atFront, strings.Repeat("x", n), false), api.OK)
		k.responds(false)
		k.backIs(dataOf(atBack, strings.Repeat("y", n), false), api.OK)
		k.is(false, true, 2*n)
		k.frontIs(dataOf(atFront, "x", false), api.OK)
		k.is(true, true, 2*n)
		k.clientHears("reset 1 code 3")

		k = begin(t, plan{buffer: n})
		k.responds(false)
		k.backIs(dataOf(atBack, strings.Repeat("y", n), false), api.OK)
		k.backIs(dataOf(atBack, "y", false), api.OK)
		k.is(true, true, n)
		k.clientHears("reset 1 code 2")
	}
	k := begin(t, plan{})
	p, e := relay.New(k.front, atFront, k.back, atBack, 0)
	if p == nil || e != api.OK {
		t.Fatalf("New without a buffer = %v, %d", p, e)
	}
	k.p = p
	k.frontIs(dataOf(atFront, "", false), api.OK)
	k.is(false, false, 0)
	k.frontIs(dataOf(atFront, "x", false), api.OK)
	k.is(true, false, 0)
}

// P21.1: a request that has ended has ended for the pair, too.
func TestNewEnded(t *testing.T) {
	k := begin(t, plan{ended: true})
	k.moves(0)
	k.quiet()
	k.responds(true)
	k.is(true, true, 0)

	for _, e := range []api.Event{dataOf(atFront, "x", false), dataOf(atFront, "", true), tailOf(atFront, nil)} {
		k = begin(t, plan{ended: true})
		k.frontIs(e, api.OK)
		k.is(true, false, 0)
		k.clientHears("reset 1 code 3")
		k.serverHears("reset 3 code 8")
	}
}

// everyKind are events of all kinds, and of some that there are not.
func everyKind(stream int) []api.Event {
	var l []api.Event
	for _, kind := range []int{math.MinInt, -1, 0, 1, 2, 3, 4, 5, 6, 7, 8, 9, math.MaxInt} {
		l = append(l, api.Event{Kind: kind, Stream: stream, List: response("200"), Bytes: []byte("x"), End: true, Code: api.CRefused})
	}
	return l
}

// P21.2: events of other streams, be the pair over or not.
func TestOtherStreams(t *testing.T) {
	k := begin(t, plan{})
	for over := range 2 {
		for _, n := range numbers {
			for _, e := range everyKind(n) {
				k.frontIs(e, api.ErrArg)
				k.backIs(e, api.ErrArg)
			}
		}
		for _, e := range everyKind(atBack) {
			k.frontIs(e, api.ErrArg)
		}
		for _, e := range everyKind(atFront) {
			k.backIs(e, api.ErrArg)
		}
		k.is(over == 1, false, 0)
		k.quiet()
		if over == 0 {
			k.lostIs(true, api.OK)
			k.serverHears("reset 3 code 8")
		}
	}
}

// P21.2, P21.3: a pair that is over.
func TestOver(t *testing.T) {
	for _, ends := range []func(k *chain){
		func(k *chain) { k.lostIs(true, api.OK) },
		func(k *chain) { k.lostIs(false, api.OK) },
		func(k *chain) { k.frontIs(resetOf(atFront, 0), api.OK) },
		func(k *chain) { k.backIs(resetOf(atBack, 0), api.OK) },
		func(k *chain) { k.backIs(headOf(atBack, nil, false), api.OK) },
	} {
		k := begin(t, plan{})
		ends(k)
		pass(t, k.front, k.client)
		pass(t, k.back, k.server)
		k.is(true, false, 0)
		for _, e := range everyKind(atFront) {
			k.frontIs(e, api.ErrState)
		}
		for _, e := range everyKind(atBack) {
			k.backIs(e, api.ErrState)
		}
		k.lostIs(true, api.ErrState)
		k.lostIs(false, api.ErrState)
		k.moves(0)
		k.is(true, false, 0)
		k.quiet()
	}
}

// P21.2: of the front's headers, and of what is told of the connection, the pair does nothing.
func TestFrontOthers(t *testing.T) {
	k := begin(t, plan{})
	for _, e := range everyKind(atFront) {
		switch e.Kind {
		case api.EvData, api.EvTrailers, api.EvReset, api.EvBad:
			continue
		}
		k.frontIs(e, api.OK)
	}
	k.moves(0)
	k.is(false, false, 0)
	k.quiet()
	for _, e := range everyKind(atBack) {
		switch e.Kind {
		case api.EvHeaders, api.EvData, api.EvTrailers, api.EvReset, api.EvBad:
			continue
		}
		k.backIs(e, api.OK)
	}
	k.moves(0)
	k.is(false, false, 0)
	k.quiet()
}

// P21.2: the front's data, and their end.
func TestFrontData(t *testing.T) {
	k := begin(t, plan{buffer: 6})
	k.frontIs(dataOf(atFront, "ab", false), api.OK)
	k.frontIs(dataOf(atFront, "cd", false), api.OK)
	k.frontIs(dataOf(atFront, "", false), api.OK)
	k.is(false, false, 4)
	k.quiet()
	k.moves(4)
	k.is(false, false, 0)
	k.serverHears("data 3 abcd")
	k.frontIs(dataOf(atFront, "ef", true), api.OK)
	k.moves(2)
	k.serverHears("data 3 ef end")

	for _, e := range []api.Event{dataOf(atFront, "", false), dataOf(atFront, "g", true), tailOf(atFront, nil)} {
		k := begin(t, plan{})
		k.frontIs(dataOf(atFront, "f", true), api.OK)
		k.frontIs(e, api.OK)
		k.is(true, false, 1)
		k.clientHears("reset 1 code 3")
		k.serverHears("reset 3 code 8")
		k.moves(0)
		k.is(true, false, 0)
	}
	k = begin(t, plan{buffer: 3})
	k.frontIs(dataOf(atFront, "ab", false), api.OK)
	k.frontIs(dataOf(atFront, "cd", true), api.OK)
	k.is(true, false, 2)
	k.clientHears("reset 1 code 3")
	k.serverHears("reset 3 code 8")
}

// P21.2: the front's trailers.
func TestFrontTrailers(t *testing.T) {
	for _, l := range [][]api.Header{list("x", "y", "z!", "hidden"), nil} {
		k := begin(t, plan{})
		k.frontIs(dataOf(atFront, "abc", false), api.OK)
		k.frontIs(tailOf(atFront, l), api.OK)
		k.is(false, false, 3)
		k.moves(3)
		k.serverHears("data 3 abc", "trailers 3"+headers(l)+" end")
		k.frontIs(dataOf(atFront, "", false), api.OK)
		k.is(true, false, 0)
	}
	for _, l := range [][]api.Header{list(":status", "200"), list("X", "y"), list("x", " y"), list("connection", "close"), list("x", "y", ":path", "/")} {
		k := begin(t, plan{})
		k.frontIs(tailOf(atFront, l), api.OK)
		k.is(true, false, 0)
		k.clientHears("reset 1 code 3")
		k.serverHears("reset 3 code 8")
	}
}

// P21.2: a front that is reset, or bad.
func TestFrontReset(t *testing.T) {
	for _, kind := range []int{api.EvReset, api.EvBad} {
		for _, code := range []int{math.MinInt, -1, api.CNone, api.CRefused, api.CCancel, 1<<32 - 1, math.MaxInt} {
			k := begin(t, plan{})
			k.frontIs(dataOf(atFront, "abc", false), api.OK)
			k.frontIs(api.Event{Kind: kind, Stream: atFront, Code: code}, api.OK)
			k.is(true, false, 3)
			k.clientHears()
			k.serverHears("reset 3 code 8")
			k.moves(0)
			k.is(true, false, 0)
			k.quiet()
		}
	}
	k := begin(t, plan{})
	k.responds(false)
	k.resets(k.client, atFront, api.CFlow)
	k.up()
	k.is(true, true, 0)
	k.serverHears("reset 3 code 8")
	k = begin(t, plan{})
	k.responds(true)
	k.is(false, true, 0)
	k.resets(k.client, atFront, api.CFlow)
	k.up()
	k.is(true, true, 0)
	k.serverHears("reset 3 code 8")
}

// P21.2: a response is passed on as rewrite has it.
func TestBackHeaders(t *testing.T) {
	for _, end := range []bool{false, true} {
		k := begin(t, plan{})
		k.backIs(headOf(atBack, response("200", "set-cookie", "a", "via", "1 x", "b", "c"), end), api.OK)
		k.is(false, true, 0)
		want := "headers 1 :status=200 set-cookie=a! b=c via=1 x, 2 aqueduct"
		if end {
			want += " end"
		}
		k.clientHears(want)
		k.serverHears()
		k.moves(0)
		k.quiet()
		k.frontIs(dataOf(atFront, "goes on", false), api.OK)
		k.moves(7)
		k.serverHears("data 3 goes on")
	}
	for _, status := range []string{"200", "204", "304", "404", "502", "599"} {
		k := begin(t, plan{ended: true})
		k.backIs(headOf(atBack, response(status), true), api.OK)
		k.is(false, true, 0)
		k.clientHears("headers 1 :status=" + status + " via=2 aqueduct end")
		k.heads(k.server, atBack, response(status), true)
		pass(t, k.server, k.back)
		k.is(true, true, 0)
	}
}

// P21.2: behind a response's end there is nothing more.
func TestBackHeadersEnd(t *testing.T) {
	for _, e := range []api.Event{dataOf(atBack, "", false), dataOf(atBack, "x", true), tailOf(atBack, nil)} {
		k := begin(t, plan{})
		k.backIs(headOf(atBack, response("200"), true), api.OK)
		k.backIs(e, api.OK)
		k.is(true, true, 0)
		k.clientHears("headers 1 :status=200 via=2 aqueduct end", "reset 1 code 2")
		k.serverHears("reset 3 code 8")
	}
}

// P21.2: interim responses are not passed on.
func TestBackInterim(t *testing.T) {
	k := begin(t, plan{})
	for _, status := range []string{"100", "103", "199"} {
		for _, end := range []bool{false, true} {
			k.backIs(headOf(atBack, response(status, "a", "b"), end), api.OK)
			k.moves(0)
			k.is(false, false, 0)
			k.quiet()
		}
	}
	k.responds(false)
	k.is(false, true, 0)
}

// P21.2: a response that can't be passed on is answered for.
func TestBackHeadersBad(t *testing.T) {
	long := strings.Repeat("v", api.MaxText)
	for _, l := range [][]api.Header{
		nil, list("a", "b"), response("99"), response("600"), response("abc"), response(""), response("200", "A", "b"),
		response("200", "a", "b "), response("200", "connection", "close"), response("200", "content-length", "x"),
		response("200", "via", long), response("100", "via", long), response("100", "A", "b"), request(),
	} {
		for _, ended := range []bool{false, true} {
			k := begin(t, plan{ended: ended})
			k.backIs(headOf(atBack, l, false), api.OK)
			k.is(true, false, 0)
			want := []string{"headers 1 :status=502 end", "reset 1 code 0"}
			if ended {
				want = want[:1]
			}
			k.clientHears(want...)
			k.serverHears("reset 3 code 8")
			k.quiet()
		}
	}
}

// P21.2: a response that the front's connection does not take.
func TestBackHeadersRefused(t *testing.T) {
	many := response("200")
	for range api.MaxHeaders {
		many = append(many, list("a", "b")...)
	}
	k := begin(t, plan{})
	k.backIs(headOf(atBack, many, false), api.OK)
	k.is(true, false, 0)
	k.clientHears()
	k.serverHears("reset 3 code 8")
	if k.front.State(atFront) != api.SOpen {
		t.Errorf("the front is %d", k.front.State(atFront))
	}

	k = begin(t, plan{})
	k.resets(k.front, atFront, api.CConnect)
	k.backIs(headOf(atBack, response("200"), false), api.OK)
	k.is(true, false, 0)
	k.clientHears("reset 1 code 10")
	k.serverHears("reset 3 code 8")

	k = begin(t, plan{})
	k.responds(false)
	k.backIs(headOf(atBack, response("200"), false), api.OK) // a second one
	k.is(true, true, 0)
	k.clientHears()
	k.serverHears("reset 3 code 8")
}

// P21.2: the back's data, and their end.
func TestBackData(t *testing.T) {
	k := begin(t, plan{buffer: 6, ended: true})
	k.responds(false)
	k.backIs(dataOf(atBack, "ab", false), api.OK)
	k.backIs(dataOf(atBack, "cd", false), api.OK)
	k.is(false, true, 4)
	k.quiet()
	k.moves(4)
	k.is(false, true, 0)
	k.clientHears("data 1 abcd")
	k.backIs(dataOf(atBack, "ef", true), api.OK)
	k.moves(2)
	k.clientHears("data 1 ef end")

	for _, e := range []api.Event{dataOf(atBack, "", false), dataOf(atBack, "g", true), tailOf(atBack, nil)} {
		k := begin(t, plan{})
		k.responds(false)
		k.backIs(dataOf(atBack, "f", true), api.OK)
		k.backIs(e, api.OK)
		k.is(true, true, 1)
		k.clientHears("reset 1 code 2")
		k.serverHears("reset 3 code 8")
		k.moves(0)
		k.is(true, true, 0)
	}
}

// P21.2: data and trailers that the pump does not take ahead of a response.
func TestBackDataEarly(t *testing.T) {
	for _, e := range []api.Event{dataOf(atBack, "abcd", false), dataOf(atBack, "abcd", true), tailOf(atBack, response("200"))} {
		k := begin(t, plan{buffer: 3})
		k.backIs(e, api.OK)
		k.is(true, false, 0)
		k.clientHears("headers 1 :status=502 end", "reset 1 code 0")
		k.serverHears("reset 3 code 8")
	}
	k := begin(t, plan{})
	k.backIs(dataOf(atBack, "abc", true), api.OK)
	k.moves(0)
	k.is(false, false, 3)
	k.quiet()
	k.backIs(headOf(atBack, response("200"), false), api.OK)
	k.moves(3)
	k.clientHears("headers 1 :status=200 via=2 aqueduct", "data 1 abc end")
}

// P21.2: the back's trailers.
func TestBackTrailers(t *testing.T) {
	for _, l := range [][]api.Header{list("x", "y", "z!", "hidden"), nil} {
		k := begin(t, plan{ended: true})
		k.responds(false)
		k.backIs(dataOf(atBack, "abc", false), api.OK)
		k.backIs(tailOf(atBack, l), api.OK)
		k.is(false, true, 3)
		k.moves(3)
		k.clientHears("data 1 abc", "trailers 1"+headers(l)+" end")
	}
	for _, l := range [][]api.Header{list(":status", "200"), list("X", "y"), list("x", "y\n"), list("te", "gzip")} {
		k := begin(t, plan{})
		k.responds(false)
		k.backIs(tailOf(atBack, l), api.OK)
		k.is(true, true, 0)
		k.clientHears("reset 1 code 2")
		k.serverHears("reset 3 code 8")
	}
}

// P21.2: a back that is reset, or bad, ahead of a response: the client is answered, once. The back is not reset.
func TestBackResetEarly(t *testing.T) {
	for _, kind := range []int{api.EvReset, api.EvBad} {
		for code, status := range map[int]string{
			api.CRefused: "503", api.CNone: "502", api.CProtocol: "502", api.CClosed: "502", api.CSize: "502", api.CCancel: "502",
			api.CCalm: "502", 1<<32 - 1: "502", -1: "502", math.MinInt: "502", math.MaxInt: "502",
		} {
			for _, ended := range []bool{false, true} {
				k := begin(t, plan{ended: ended})
				k.backIs(api.Event{Kind: kind, Stream: atBack, Code: code}, api.OK)
				k.is(true, false, 0)
				want := []string{"headers 1 :status=" + status + " end", "reset 1 code 0"}
				if ended {
					want = want[:1]
				}
				k.clientHears(want...)
				k.serverHears()
			}
		}
	}
}

// P21.2: a back that is reset, or bad, while its response goes on.
func TestBackResetLate(t *testing.T) {
	for _, kind := range []int{api.EvReset, api.EvBad} {
		for _, code := range []int{api.CNone, api.CInternal, api.CRefused, api.CCancel, 1<<32 - 1} {
			k := begin(t, plan{})
			k.responds(false)
			k.backIs(dataOf(atBack, "abc", false), api.OK)
			k.backIs(api.Event{Kind: kind, Stream: atBack, Code: code}, api.OK)
			k.is(true, true, 3)
			hears(t, "client", pass(t, k.front, k.client), []string{told(resetOf(atFront, code))})
			k.serverHears()
			k.moves(0)
			k.is(true, true, 0)
			k.quiet()
		}
	}
	for _, code := range []int{-1, 1 << 32} { // that no frame has room for
		k := begin(t, plan{})
		k.responds(false)
		k.backIs(resetOf(atBack, code), api.OK)
		k.is(true, true, 0)
		k.quiet()
	}
}

// P21.2: a back that is reset when all of its response has come: that goes on.
func TestBackResetBehind(t *testing.T) {
	for _, kind := range []int{api.EvReset, api.EvBad} {
		for _, tail := range []bool{false, true} {
			k := begin(t, plan{ended: true})
			k.responds(false)
			want := []string{"data 1 abc end"}
			k.backIs(dataOf(atBack, "abc", !tail), api.OK)
			if tail {
				k.backIs(tailOf(atBack, list("x", "y")), api.OK)
				want = []string{"data 1 abc", "trailers 1 x=y end"}
			}
			k.backIs(api.Event{Kind: kind, Stream: atBack, Code: api.CRefused}, api.OK)
			k.is(false, true, 3)
			k.moves(3)
			k.is(false, true, 0)
			k.clientHears(want...)
			k.is(true, true, 0)
			k.serverHears()
		}
	}
	k := begin(t, plan{})
	k.responds(true)
	k.backIs(resetOf(atBack, api.CNone), api.OK)
	k.is(false, true, 0)
	k.sends(k.client, atFront, strings.Repeat("nobody reads ", 7), false)
	k.up()
	k.is(false, true, 91)
	k.moves(0)
	k.is(false, true, 0)
	pass(t, k.front, k.client)
	k.sends(k.client, atFront, strings.Repeat("nobody reads ", 7), true)
	k.up()
	k.is(false, true, 91)
	k.moves(0)
	k.is(true, true, 0)
	k.quiet()
}

// P21.3: what a lost connection leads to, each side's.
func TestLost(t *testing.T) {
	k := begin(t, plan{})
	k.frontIs(dataOf(atFront, "abc", false), api.OK)
	k.lostIs(true, api.OK)
	k.is(true, false, 3)
	k.clientHears()
	k.serverHears("reset 3 code 8")

	k = begin(t, plan{})
	k.responds(true)
	k.lostIs(true, api.OK)
	k.is(true, true, 0)
	k.clientHears()
	k.serverHears("reset 3 code 8")

	k = begin(t, plan{})
	k.lostIs(false, api.OK)
	k.is(true, false, 0)
	k.clientHears("headers 1 :status=502 end", "reset 1 code 0")
	k.serverHears()

	k = begin(t, plan{ended: true})
	k.lostIs(false, api.OK)
	k.is(true, false, 0)
	k.clientHears("headers 1 :status=502 end")
	k.serverHears()

	k = begin(t, plan{})
	k.responds(false)
	k.lostIs(false, api.OK)
	k.is(true, true, 0)
	k.clientHears("reset 1 code 2")
	k.serverHears()

	k = begin(t, plan{ended: true})
	k.responds(false)
	k.backIs(dataOf(atBack, "abc", true), api.OK)
	for range 2 { // a side that is over may be lost
		k.lostIs(false, api.OK)
		k.is(false, true, 3)
		k.quiet()
	}
	k.moves(3)
	k.clientHears("data 1 abc end")
	k.is(true, true, 0)
	k.lostIs(false, api.ErrState)
}

// P21.2: a back whose stream was reset already is not reset once more by an answer, nor the front.
func TestAnswerOnce(t *testing.T) {
	k := begin(t, plan{})
	k.resets(k.server, atBack, api.CRefused)
	k.down()
	k.is(true, false, 0)
	k.clientHears("headers 1 :status=503 end", "reset 1 code 0")
	k.serverHears()
	k.backIs(resetOf(atBack, api.CRefused), api.ErrState)
	k.lostIs(false, api.ErrState)
	k.quiet()

	k = begin(t, plan{})
	k.responds(false)
	k.backIs(dataOf(atBack, "abc", true), api.OK)
	k.backIs(resetOf(atBack, api.CNone), api.OK) // its connection does not know of that
	k.backIs(dataOf(atBack, "d", false), api.OK)
	k.is(true, true, 3)
	k.clientHears("reset 1 code 2")
	k.serverHears()
}

// P21.4: of no pair.
func TestNone(t *testing.T) {
	for _, p := range []*relay.Pair{nil, {}, new(relay.Pair)} {
		for _, n := range append(slices.Clone(numbers), atFront, atBack) {
			for _, e := range everyKind(n) {
				if x, y := p.Front(e), p.Back(e); x != api.ErrZero || y != api.ErrZero {
					t.Errorf("Front, Back of %d = %d, %d", n, x, y)
				}
			}
		}
		if x, y := p.Lost(true), p.Lost(false); x != api.ErrZero || y != api.ErrZero {
			t.Errorf("Lost = %d, %d", x, y)
		}
		x, y := p.Streams()
		if p.Move() != 0 || p.Over() || p.Passed() || p.Held() != 0 || x != 0 || y != 0 {
			t.Errorf("%v, %v, %d, %d, %d", p.Over(), p.Passed(), p.Held(), x, y)
		}
	}
}

// P4: what is handed in is neither changed nor kept.
func TestArguments(t *testing.T) {
	k := begin(t, plan{})
	k.responds(false)
	body, trailers := dataOf(atBack, "0123456789", false), tailOf(atBack, list("x", "y"))
	k.backIs(body, api.OK)
	k.backIs(trailers, api.OK)
	if string(body.Bytes) != "0123456789" || headers(trailers.List) != " x=y" {
		t.Errorf("changed: %s, %v", body.Bytes, trailers.List)
	}
	clear(body.Bytes)
	clear(trailers.List)
	k.moves(10)
	k.clientHears("data 1 0123456789", "trailers 1 x=y end")
	k = begin(t, plan{})
	head := headOf(atBack, response("200", "set-cookie", "a", "via", "b"), false)
	k.backIs(head, api.OK)
	if headers(head.List) != " :status=200 set-cookie=a via=b" {
		t.Errorf("changed: %v", head.List)
	}
}

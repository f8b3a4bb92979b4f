package proxy_test

import (
	"bytes"
	"math"
	"slices"
	"testing"

	"aqueduct/api"
	"aqueduct/frame"
	"aqueduct/proxy"
)

// garbage is what no end of a connection takes: it comes in the preface's place, or is a frame that is too long.
var garbage = bytes.Repeat([]byte{0xff}, 9)

// The example of the chapter.
func TestExample(t *testing.T) {
	c := config()
	c.Backs, c.Conns = 1, 1
	w := newWorld(t, c)
	w.ticks("dial 0")
	w.backs(0)
	w.open(1)
	l := w.p.Do(api.In{What: api.InBudget, A: 1, B: 999})
	if len(l) != 1 || l[0].What != api.OutBytes || l[0].A != 1 || !bytes.HasPrefix(l[0].Bytes, []byte("PRI * HTTP/2.0\r\n\r\nSM\r\n\r\n")) {
		t.Fatalf("InBudget: %v", l)
	}
	w.raw[1] = l[0].Bytes[24:]
	w.writes(1, "SETTINGS 0")
}

// P22.2: a connection opens once, and by its client's number alone.
func TestOpen(t *testing.T) {
	w := newWorld(t, config())
	w.does(api.In{What: api.InOpen, A: -1})
	w.does(api.In{What: api.InOpen, A: math.MinInt})
	w.does(api.In{What: api.InOpen, A: 2}) // a backend's
	w.does(api.In{What: api.InOpen, A: 3})
	w.open()
	w.does(api.In{What: api.InOpen, A: 4}, "close 4")
	w.does(api.In{What: api.InOpen, A: 5}, "close 5")
	if l := w.p.Do(api.In{What: api.InOpen, A: math.MaxInt}); len(l) != 1 || l[0].What != api.OutClose || l[0].A != math.MaxInt {
		t.Errorf("InOpen: %v", l)
	}
	w.open()
	w.does(api.In{What: api.InOpen, A: 1})
	w.open(1)
	w.does(api.In{What: api.InOpen, A: 0})
	w.open(0, 1)
	w.does(api.In{What: api.InBudget, A: 0, B: 5})
	w.does(api.In{What: api.InOpen, A: 0}) // it goes on as it was
	w.does(api.In{What: api.InBudget, A: 0, B: most})
	if s := w.wrote(0); !slices.Equal(s, []string{"SETTINGS 0"}) {
		t.Errorf("it writes %q", s)
	}
	w.does(api.In{What: api.InOpen, A: 0})
	w.does(api.In{What: api.InBudget, A: 0, B: most})
	if len(w.raw[0]) > 0 {
		t.Errorf("it writes %x", w.raw[0])
	}
}

// A backend's number is none of a client's, be its connection open or not.
func TestOpenOfBackend(t *testing.T) {
	w := begin(t, config())
	w.does(api.In{What: api.InOpen, A: w.at(0)})
	if w.takes(w.at(0)); len(w.raw[w.at(0)]) > 0 {
		t.Error("it begins again")
	}
	w.does(api.In{What: api.InStop})
	w.closes(w.at(0))
	w.does(api.In{What: api.InOpen, A: w.at(0)})
	w.does(api.In{What: api.InOpen, A: w.at(1)})
	w.does(api.In{What: api.InOpen, A: -1})
	w.open(0, 1, 3)
}

// settings answers the settings that were written first, behind so many bytes of a greeting.
func settings(t *testing.T, w *world, n int, greeting int) []api.Setting {
	t.Helper()
	w.takes(n)
	f, _, bad, e := frame.Parse(w.raw[n][greeting:], api.MaxFrame)
	if e != api.OK || bad.Is || f.Type != api.FSettings || f.Flags != 0 {
		t.Fatalf("Parse = %v, %v, %d", f, bad, e)
	}
	return f.Sets
}

// P22.2's words: what connections are made with, as far as their settings tell it.
func TestSetups(t *testing.T) {
	c := config()
	c.Streams, c.Buffer, c.List = 7, 1234, 5678
	w := newWorld(t, c)
	w.ticks("dial 0", "dial 1")
	w.joins(1)
	w.backs(1)
	want := []api.Setting{{ID: 1, Value: 4096}, {ID: 3, Value: 7}, {ID: 4, Value: 1234}, {ID: 5, Value: 16384}, {ID: 6, Value: 5678}, {ID: 8, Value: 1}}
	if got := settings(t, w, 1, 0); !slices.Equal(got, want) {
		t.Errorf("to a client: %v", got)
	}
	want = []api.Setting{{ID: 1, Value: 4096}, {ID: 2}, {ID: 4, Value: 1234}, {ID: 5, Value: 16384}, {ID: 6, Value: 5678}}
	if got := settings(t, w, 3, 24); !slices.Equal(got, want) {
		t.Errorf("to a backend: %v", got)
	}
}

// A client has as many streams at once as Streams tells.
func TestStreams(t *testing.T) {
	c := config()
	c.Streams = 2
	w := begin(t, c)
	head := func(id int) api.Frame {
		return api.Frame{Type: api.FHeaders, Flags: api.FlagDone, Stream: id, Payload: []byte{0x82, 0x84, 0x87}}
	}
	w.gives(0, bytesOf(t, head(1), head(3), head(5)))
	w.is(2, 1, 1)
	w.takes(0)
	w.writes(0, "RST 5 7")
}

// P22.2: bytes of what is not open, or has failed, lead to nothing.
func TestBytes(t *testing.T) {
	w := newWorld(t, config())
	for _, n := range []int{-1, 0, 2, 4, math.MinInt, math.MaxInt} {
		w.gives(n, garbage)
	}
	w.open()
	w.joins(0)
	w.gives(1, garbage)
	w.gives(0, garbage[:1])
	w.gives(0, []byte("PRI * HTTP/2.0\r\n\r\nSM\r\n\r\n"))
	w.gives(0, garbage)
	w.takes(0, "close 0")
	w.writes(0, "SETTINGS 0", "GOAWAY 0 1")
	w.gives(0, garbage)
	w.open()
}

// A request may come in pieces, by any cuts.
func TestPieces(t *testing.T) {
	w := begin(t, config())
	id, _ := w.peers[1].Open(request(), false)
	w.data(1, id, "abc", true)
	for _, b := range w.peers[1].Out(most) {
		w.gives(1, []byte{b})
	}
	w.is(1, 1, 0)
	for range 100 {
		w.do(api.In{What: api.InBudget, A: 2, B: 10})
	}
	w.hears(2, "headers 1 via=2 aqueduct", "data 1 a", "data 1 b", "data 1 c end")
}

// P22.2: what closes is open no more; what is not open can't close.
func TestClose(t *testing.T) {
	w := begin(t, config())
	for _, n := range []int{-1, 4, 5, math.MinInt, math.MaxInt} {
		w.closes(n)
	}
	w.open(0, 1, 2, 3)
	w.closes(1)
	w.open(0, 2, 3)
	w.closes(1)
	w.closes(2)
	w.open(0, 3)
	w.closes(2)
	w.joins(1)
	w.runs()
	w.hears(1, "open 0")
	w.open(0, 1, 3)
}

// P22.2: as many bytes as there is budget for, of that connection alone, and no event's, if there are none.
func TestBudget(t *testing.T) {
	w := newWorld(t, config())
	for _, n := range []int{-1, 0, 2, 4, math.MinInt, math.MaxInt} {
		w.does(api.In{What: api.InBudget, A: n, B: most})
	}
	w.joins(0)
	w.joins(1)
	for _, b := range []int{0, -1, math.MinInt} {
		w.does(api.In{What: api.InBudget, A: 0, B: b})
	}
	total := len(settingsBytes(t, w, 1))
	sum := 0
	for _, b := range []int{1, 2, 8, 10} {
		l := w.p.Do(api.In{What: api.InBudget, A: 0, B: b})
		if len(l) != 1 || l[0].What != api.OutBytes || l[0].A != 0 || len(l[0].Bytes) != b {
			t.Fatalf("InBudget %d: %v", b, l)
		}
		sum += b
	}
	l := w.p.Do(api.In{What: api.InBudget, A: 0, B: math.MaxInt})
	if len(l) != 1 || len(l[0].Bytes) != total-sum {
		t.Fatalf("InBudget: %v", l)
	}
	w.does(api.In{What: api.InBudget, A: 0, B: math.MaxInt})
}

func settingsBytes(t *testing.T, w *world, n int) []byte {
	t.Helper()
	l := w.p.Do(api.In{What: api.InBudget, A: n, B: most})
	if len(l) != 1 {
		t.Fatalf("InBudget: %v", l)
	}
	return l[0].Bytes
}

// P22.2: one that has failed is closed as soon as nothing waits, and not earlier.
func TestBudgetOfFailed(t *testing.T) {
	w := newWorld(t, config())
	w.joins(0)
	w.gives(0, garbage)
	w.open(0)
	w.does(api.In{What: api.InBudget, A: 0, B: 0})
	w.does(api.In{What: api.InBudget, A: 0, B: 40})
	w.open(0)
	w.does(api.In{What: api.InBudget, A: 0, B: 21})
	w.open(0)
	l := w.p.Do(api.In{What: api.InBudget, A: 0, B: 1}) // the 62nd byte: 9 and 36 of SETTINGS, 17 of GOAWAY
	if len(l) != 2 || l[0].What != api.OutBytes || len(l[0].Bytes) != 1 || l[1].What != api.OutClose || l[1].A != 0 || l[1].Bytes != nil {
		t.Fatalf("InBudget: %v", l)
	}
	w.open()
	w.does(api.In{What: api.InBudget, A: 0, B: most})
}

// A connection that has nothing to write, but has not failed, stays open.
func TestBudgetOfIdle(t *testing.T) {
	w := begin(t, config())
	for n := range 4 {
		w.takes(n)
		w.does(api.In{What: api.InBudget, A: n, B: 0})
	}
	w.open(0, 1, 2, 3)
}

// P22.2: a tick tells of the backends that are dialled, in the pool's order.
func TestTick(t *testing.T) {
	c := config()
	c.Backs, c.Retry, c.Most = 3, 2, 5
	w := newWorld(t, c)
	w.ticks("dial 0", "dial 1", "dial 2")
	w.ticks()
	fails := func(n int) { w.does(api.In{What: api.InBack, A: n}) }
	fails(2)
	fails(0)
	w.ticks()
	fails(1)
	w.ticks("dial 2", "dial 0")
	w.ticks("dial 1")
	fails(0)
	fails(1)
	for range 3 {
		w.ticks()
	}
	w.ticks("dial 0", "dial 1")
	fails(0) // its wait is 5 now
	for range 4 {
		w.ticks()
	}
	w.ticks("dial 0")
	w.open()
}

// A tick's number counts for nothing, nor do its other parts.
func TestTickAlone(t *testing.T) {
	w := newWorld(t, config())
	w.does(api.In{What: api.InTick, A: 7, B: -3, Draw: 5, Bytes: garbage}, "dial 0", "dial 1")
}

// P22.2: how a dialled backend comes out.
func TestBack(t *testing.T) {
	w := newWorld(t, config())
	back := func(n, b int) { w.does(api.In{What: api.InBack, A: n, B: b}) }
	back(0, 1) // nobody dialled it
	w.open()
	w.ticks("dial 0", "dial 1")
	for _, n := range []int{-1, 2, 3, 4, math.MinInt, math.MaxInt} {
		back(n, 1)
		back(n, 0)
	}
	w.open()
	back(1, 1)
	w.open(3)
	back(0, 2) // which is not 1
	w.open(3)
	w.ticks("dial 0")
	back(0, -1)
	w.ticks()
	w.ticks("dial 0")
	back(0, 0)
	back(0, 0) // it is down already: its wait stays
	back(0, 1)
	w.open(3)
	for range 3 {
		w.ticks()
	}
	w.ticks("dial 0")
	back(0, 1)
	w.open(2, 3)
	back(0, 0) // it is up: that is for InClose
	back(1, 0)
	w.open(2, 3)
	back(0, 1) // it is the same connection still
	w.takes(2)
	n := len(w.raw[2])
	back(0, 1)
	w.takes(2)
	if len(w.raw[2]) != n {
		t.Errorf("it begins again")
	}
	for range 20 {
		w.ticks()
	}
}

// P22.2: probes make a backend's health.
func TestProbe(t *testing.T) {
	c := config()
	c.Health = api.Health{Fail: 2, Rise: 2, Hold: 2}
	w := begin(t, c)
	probe := func(n, b int) { w.does(api.In{What: api.InProbe, A: n, B: b}) }
	goes := func(loads ...int) {
		t.Helper()
		w.asks(0, 0, true)
		w.is(1, loads...)
		w.resets(0, w.peers[0].Streams()[0], api.CCancel)
		w.sends(0)
		w.is(0, 0, 0)
	}
	for _, n := range []int{-1, 2, 3, math.MinInt, math.MaxInt} {
		probe(n, 0)
		probe(n, 0)
	}
	goes(1, 0)
	probe(0, 0)
	goes(1, 0)
	probe(0, 1)
	probe(0, 2) // which is not 1
	goes(1, 0)
	probe(0, -1)
	goes(0, 1)
	w.ticks()
	w.ticks()
	goes(0, 1)
	probe(0, 1)
	goes(0, 1)
	probe(0, 1)
	goes(1, 0)
	w.open(0, 1, 2, 3)
}

// P22.2: behind InStop clients are told to go elsewhere, and no new ones are taken.
func TestStop(t *testing.T) {
	c := config()
	c.Conns = 3
	w := newWorld(t, c)
	w.ticks("dial 0", "dial 1")
	w.joins(0)
	w.joins(2)
	w.backs(0)
	w.runs()
	w.asks(2, 0, false)
	w.runs()
	w.forgets()
	if w.p.Stopping() {
		t.Fatal("Stopping")
	}
	w.does(api.In{What: api.InStop, A: 1, B: 2, Draw: 3})
	if !w.p.Stopping() {
		t.Fatal("not Stopping")
	}
	w.open(0, 2, 3)
	w.does(api.In{What: api.InOpen, A: 1}, "close 1")
	w.does(api.In{What: api.InOpen, A: 0})
	w.does(api.In{What: api.InOpen, A: 3})
	w.does(api.In{What: api.InOpen, A: 5}, "close 5")
	w.does(api.In{What: api.InStop}) // once is enough
	w.takes(0)
	w.takes(2)
	w.takes(3)
	w.writes(0, "GOAWAY 0")
	w.writes(2, "GOAWAY 0 1")
	w.writes(3)
	w.hears(2, "goaway 0 code 0")
	w.data(2, 1, "abc", true) // what has begun goes on
	w.sends(2)
	w.heads(3, 1, response("204"), true)
	w.sends(3)
	w.takes(2)
	w.takes(3)
	w.hears(2, "headers 1 :status=204 via=2 aqueduct end")
	w.hears(3, "data 1 abc end")
	w.gives(2, bytesOf(t, api.Frame{Type: api.FHeaders, Flags: api.FlagDone, Stream: 3, Payload: []byte{0x82, 0x84, 0x87}}))
	w.is(0, 0, 0)
	w.closes(0)
	w.does(api.In{What: api.InOpen, A: 0}, "close 0")
	w.closes(3)
	w.does(api.In{What: api.InBack, A: 1, B: 1}) // backends' connections open still
	w.open(2, 4)
}

// P4: what is handed in may be changed behind the call, and what is answered too.
func TestMemory(t *testing.T) {
	run := func(spoil bool) []byte {
		p, _ := proxy.New(config())
		w := begin(t, config())
		w.p = p
		w.begins()
		id, _ := w.peers[0].Open(request("x", "y"), false)
		w.data(0, id, "abcdef", true)
		var all []byte
		for b := w.peers[0].Out(most); len(b) > 0; b = b[min(7, len(b)):] {
			piece := bytes.Clone(b[:min(7, len(b))])
			w.p.Do(api.In{What: api.InBytes, A: 0, Bytes: piece})
			if spoil {
				clear(piece)
			}
		}
		for range 20 {
			for _, o := range w.p.Do(api.In{What: api.InBudget, A: 2, B: 11}) {
				all = append(all, o.Bytes...)
				if spoil {
					clear(o.Bytes[:cap(o.Bytes)])
				}
			}
		}
		l := w.p.Loads()
		clear(l)
		w.is(1, 1, 0)
		return all
	}
	if x, y := run(false), run(true); !bytes.Equal(x, y) || len(x) < 30 {
		t.Errorf("%x, and %x", x, y)
	}
}

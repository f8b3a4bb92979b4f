package stream_test

import (
	"math"
	"math/rand"
	"slices"
	"strings"
	"testing"

	"aqueduct/api"
	"aqueduct/stream"
)

// chapter is the chapter's table: a row for each thing that happens, a column for each state.
const chapter = `RecvHeaders | SOpen | SOpen | SLocal | S CClosed | C CClosed
RecvEnd | SRemote | SRemote | SClosed | S CClosed | C CClosed
RecvData | C CProtocol | SOpen | SLocal | S CClosed | C CClosed
RecvReset | C CProtocol | SClosed | SClosed | SClosed | SClosed
RecvWindow | C CProtocol | SOpen | SLocal | SRemote | SClosed
SendHeaders | SOpen | SOpen | - | SRemote | -
SendEnd | SLocal | SLocal | - | SClosed | -
SendData | - | SOpen | - | SRemote | -
SendReset | - | SClosed | SClosed | SClosed | -`

// step is what Step answers.
type step struct {
	next, whose, code int
	e                 api.Errno
}

// steps reads the chapter's table: by what happens, then by states.
func steps() [][]step {
	states := []string{"SIdle", "SOpen", "SLocal", "SRemote", "SClosed"}
	var all [][]step
	for line := range strings.SplitSeq(chapter, "\n") {
		var row []step
		for state, cell := range strings.Split(line, " | ")[1:] {
			switch cell {
			case "-":
				row = append(row, step{state, 0, 0, api.ErrState})
			case "S CClosed":
				row = append(row, step{state, 1, api.CClosed, api.OK})
			case "C CClosed":
				row = append(row, step{state, 2, api.CClosed, api.OK})
			case "C CProtocol":
				row = append(row, step{state, 2, api.CProtocol, api.OK})
			default:
				row = append(row, step{slices.Index(states, cell), 0, 0, api.OK})
			}
		}
		all = append(all, row)
	}
	return all
}

// wrong are numbers that no state, nothing that happens and no stream has.
func wrong() []int {
	return []int{-1, -2, -64, math.MinInt, math.MinInt + 1, math.MaxInt, math.MaxInt - 1, 1 << 32, 1<<32 + 1, 1<<40 + 3}
}

func connFault(code int) api.Fault {
	return api.Fault{Is: true, Code: code}
}

func streamFault(id, code int) api.Fault {
	return api.Fault{Is: true, Stream: id, Code: code}
}

func mustStep(t *testing.T, state, what int, want step) {
	t.Helper()
	next, whose, code, e := stream.Step(state, what)
	if got := (step{next, whose, code, e}); got != want {
		t.Errorf("Step(%d, %d) = %v, want %v", state, what, got, want)
	}
}

func mustNew(t *testing.T, server bool, most int) *stream.Streams {
	t.Helper()
	s, e := stream.New(server, most)
	if s == nil || e != api.OK {
		t.Fatalf("New(%v, %d) = %v, %d", server, most, s, e)
	}
	return s
}

func mustLimit(t *testing.T, s *stream.Streams, most int) {
	t.Helper()
	if e := s.Limit(most); e != api.OK {
		t.Fatalf("Limit(%d) = %d", most, e)
	}
}

func mustPeer(t *testing.T, s *stream.Streams, id int, want bool) {
	t.Helper()
	if ok, x := s.Peer(id); ok != want || x != (api.Fault{}) {
		t.Fatalf("Peer(%d) = %v, %v, want %v", id, ok, x, want)
	}
}

func mustNotPeer(t *testing.T, s *stream.Streams, ids ...int) {
	t.Helper()
	for _, id := range ids {
		if ok, x := s.Peer(id); ok || x != connFault(api.CProtocol) {
			t.Fatalf("Peer(%d) = %v, %v, want false and the connection's fault CProtocol", id, ok, x)
		}
	}
}

func mustOwn(t *testing.T, s *stream.Streams, want int) {
	t.Helper()
	if id, e := s.Own(); id != want || e != api.OK {
		t.Fatalf("Own() = %d, %d, want %d", id, e, want)
	}
}

func mustNotOwn(t *testing.T, s *stream.Streams, want api.Errno) {
	t.Helper()
	if id, e := s.Own(); id != 0 || e != want {
		t.Fatalf("Own() = %d, %d, want 0, %d", id, e, want)
	}
}

// mustDo steps a stream by each of the things in turn, of which the last leads to want.
func mustDo(t *testing.T, s *stream.Streams, id int, want int, whats ...int) {
	t.Helper()
	for i, what := range whats {
		next, x, e := s.Do(id, what)
		if x != (api.Fault{}) || e != api.OK || i == len(whats)-1 && next != want {
			t.Fatalf("Do(%d, %d) = %d, %v, %d, want %d", id, what, next, x, e, want)
		}
	}
}

// mustNotDo asks for a fault or an error, beside which all is zero.
func mustNotDo(t *testing.T, s *stream.Streams, id, what int, bad api.Fault, want api.Errno) {
	t.Helper()
	if next, x, e := s.Do(id, what); next != 0 || x != bad || e != want {
		t.Fatalf("Do(%d, %d) = %d, %v, %d, want 0, %v, %d", id, what, next, x, e, bad, want)
	}
}

func mustState(t *testing.T, s *stream.Streams, want int, ids ...int) {
	t.Helper()
	for _, id := range ids {
		if state := s.State(id); state != want {
			t.Fatalf("State(%d) = %d, want %d", id, state, want)
		}
	}
}

func mustDropped(t *testing.T, s *stream.Streams, want bool, ids ...int) {
	t.Helper()
	for _, id := range ids {
		if dropped := s.Dropped(id); dropped != want {
			t.Fatalf("Dropped(%d) = %v, want %v", id, dropped, want)
		}
	}
}

func mustTell(t *testing.T, s *stream.Streams, own, peer, last int, list ...int) {
	t.Helper()
	if s.Open(true) != own || s.Open(false) != peer || s.Last() != last || !slices.Equal(s.List(), list) {
		t.Fatalf("Open(true) = %d, Open(false) = %d, Last() = %d, List() = %v, want %d, %d, %d, %v", s.Open(true), s.Open(false), s.Last(), s.List(), own, peer, last, list)
	}
}

// P10.1, P10.2: the chapter's examples.
func TestExamples(t *testing.T) {
	mustStep(t, api.SIdle, api.RecvEnd, step{api.SRemote, 0, 0, api.OK})
	mustStep(t, api.SIdle, api.RecvData, step{api.SIdle, 2, api.CProtocol, api.OK})
	mustStep(t, api.SLocal, api.SendData, step{api.SLocal, 0, 0, api.ErrState})
	s := mustNew(t, true, 1)
	mustPeer(t, s, 1, true)
	mustPeer(t, s, 3, false)
	mustNotPeer(t, s, 3, 2)
}

// P10.1: the whole table.
func TestStep(t *testing.T) {
	for what, row := range steps() {
		for state, want := range row {
			mustStep(t, state, what, want)
		}
	}
}

// P10.1: what is none of the table's.
func TestStepWrong(t *testing.T) {
	for _, n := range append(wrong(), 9, 10, 256, 261) {
		for k := range 9 {
			mustStep(t, n, k, step{e: api.ErrArg})
			mustStep(t, k%5, n, step{e: api.ErrArg})
		}
		mustStep(t, n, n, step{e: api.ErrArg})
	}
	for what := range 9 {
		mustStep(t, 5, what, step{e: api.ErrArg})
		mustStep(t, 8, what, step{e: api.ErrArg})
	}
}

// P10.2: New's bounds.
func TestNew(t *testing.T) {
	for _, server := range []bool{false, true} {
		for _, most := range append(wrong(), api.MaxStreams+1) {
			if s, e := stream.New(server, most); s != nil || e != api.ErrArg {
				t.Errorf("New(%v, %d) = %v, %d, want nil, ErrArg", server, most, s, e)
			}
		}
		for _, most := range []int{0, 1, api.MaxStreams} {
			s := mustNew(t, server, most)
			mustTell(t, s, 0, 0, 0)
			mustState(t, s, api.SIdle, 1, 2, 3, api.MaxID-1, api.MaxID)
			mustDropped(t, s, false, 1, 2, 3, api.MaxID-1, api.MaxID)
		}
	}
}

// P10.2: the peer may have as many open as New was told, and no more.
func TestPeerMost(t *testing.T) {
	for _, server := range []bool{false, true} {
		for _, most := range []int{0, 1, 2, 100, api.MaxStreams} {
			s := mustNew(t, server, most)
			id, list := 2, []int(nil)
			if server {
				id = 1
			}
			for range most {
				mustPeer(t, s, id, true)
				mustState(t, s, api.SIdle, id)
				mustDropped(t, s, false, id)
				list = append(list, id)
				id += 2
			}
			mustTell(t, s, 0, most, max(0, id-2), list...)
			mustPeer(t, s, id, false)
			mustState(t, s, api.SClosed, id)
			mustDropped(t, s, true, id)
			mustTell(t, s, 0, most, id, list...)
			mustNotPeer(t, s, id)
			mustDo(t, s, id, api.SClosed, api.RecvHeaders)
			if most == 0 {
				continue
			}
			mustDo(t, s, list[0], api.SClosed, api.RecvEnd, api.SendEnd)
			mustPeer(t, s, id+2, true)
			mustPeer(t, s, id+4, false)
			mustTell(t, s, 0, most, id+4, append(list[1:], id+2)...)
		}
	}
}

// P10.2: numbers that a peer may not open; nothing has changed by them.
func TestPeerWrong(t *testing.T) {
	for _, server := range []bool{false, true} {
		first := 2
		if server {
			first = 1
		}
		s := mustNew(t, server, 2)
		mustNotPeer(t, s, append(wrong(), 0, api.MaxID+1, api.MaxID+2, 3-first, api.MaxID-2+first, 1000+3-first)...)
		mustTell(t, s, 0, 0, 0)
		mustPeer(t, s, first+4, true)
		mustNotPeer(t, s, first, first+2, first+4, first+3, first+5, 0, -first)
		mustTell(t, s, 0, 1, first+4, first+4)
		mustState(t, s, api.SClosed, first, first+2)
		mustDropped(t, s, false, first, first+2)
		mustPeer(t, s, api.MaxID+1-first, true)
		mustNotPeer(t, s, api.MaxID+1-first, api.MaxID-1-first, api.MaxID+3-first, first+6)
		mustTell(t, s, 0, 2, api.MaxID+1-first, first+4, api.MaxID+1-first)
		mustState(t, s, api.SClosed, first+6, api.MaxID-1-first)
	}
}

// P10.2: a number that may not be is a fault, even where a stream would be refused.
func TestPeerWrongAheadOfRefused(t *testing.T) {
	s := mustNew(t, true, 0)
	mustNotPeer(t, s, 0, 2, -1, api.MaxID+2)
	mustTell(t, s, 0, 0, 0)
	mustPeer(t, s, 7, false)
	mustNotPeer(t, s, 7, 5)
	mustDropped(t, s, false, 5, 2, 0, -1)
}

// P10.2: this end's numbers rise by two from 1 or 2, and it has api.MaxStreams open at most.
func TestOwn(t *testing.T) {
	for _, server := range []bool{false, true} {
		s := mustNew(t, server, 0)
		id, list := 1, []int(nil)
		if server {
			id = 2
		}
		for range api.MaxStreams {
			mustState(t, s, api.SIdle, id)
			mustOwn(t, s, id)
			mustState(t, s, api.SIdle, id)
			list = append(list, id)
			id += 2
		}
		mustNotOwn(t, s, api.ErrFull)
		mustTell(t, s, api.MaxStreams, 0, 0, list...)
		mustDo(t, s, list[5], api.SClosed, api.SendHeaders, api.RecvReset)
		mustOwn(t, s, id)
		mustNotOwn(t, s, api.ErrFull)
		mustState(t, s, api.SIdle, id+2)
		mustState(t, s, api.SClosed, list[5])
		mustTell(t, s, api.MaxStreams, 0, 0, append(slices.Delete(list, 5, 6), id)...)
	}
}

// P10.2: Limit is of this end's streams, at most api.MaxStreams, and may be below what is open.
func TestLimit(t *testing.T) {
	s := mustNew(t, false, 1)
	for _, most := range []int{-1, -2, math.MinInt} {
		if e := s.Limit(most); e != api.ErrArg {
			t.Errorf("Limit(%d) = %d, want ErrArg", most, e)
		}
	}
	mustOwn(t, s, 1)
	mustLimit(t, s, 0)
	mustNotOwn(t, s, api.ErrFull)
	mustPeer(t, s, 2, true)
	mustPeer(t, s, 4, false)
	mustLimit(t, s, 3)
	mustOwn(t, s, 3)
	mustOwn(t, s, 5)
	mustNotOwn(t, s, api.ErrFull)
	mustLimit(t, s, 2)
	mustDo(t, s, 1, api.SClosed, api.SendHeaders, api.SendReset)
	mustNotOwn(t, s, api.ErrFull)
	mustDo(t, s, 3, api.SClosed, api.SendEnd, api.RecvEnd)
	mustOwn(t, s, 7)
	mustNotOwn(t, s, api.ErrFull)
	mustTell(t, s, 2, 1, 4, 2, 5, 7)
	if e := s.Limit(-1); e != api.ErrArg {
		t.Errorf("Limit(-1) = %d, want ErrArg", e)
	}
	mustNotOwn(t, s, api.ErrFull)
	for _, most := range []int{api.MaxStreams, api.MaxStreams + 1, math.MaxUint32, math.MaxInt} {
		mustLimit(t, s, most)
		for s.Open(true) < api.MaxStreams {
			if _, e := s.Own(); e != api.OK {
				t.Fatalf("Own() beside %d open ones: %d", s.Open(true), e)
			}
		}
		mustNotOwn(t, s, api.ErrFull)
		mustDo(t, s, s.List()[s.Open(true)-1], api.SClosed, api.SendHeaders, api.SendReset)
	}
}

// lead answers streams whose stream 1, the peer's or this end's, has been led to a state.
func lead(t *testing.T, server bool, state int) *stream.Streams {
	t.Helper()
	s := mustNew(t, server, 3)
	if server {
		mustPeer(t, s, 1, true)
	} else {
		mustOwn(t, s, 1)
	}
	way := [][]int{{}, {api.RecvHeaders}, {api.SendEnd}, {api.RecvEnd}, {api.RecvHeaders, api.RecvReset}}[state]
	mustDo(t, s, 1, state, way...)
	mustState(t, s, state, 1)
	return s
}

// P10.3: Do of a stream in each state, by all that can happen.
func TestDo(t *testing.T) {
	for _, server := range []bool{false, true} {
		for what, row := range steps() {
			for state, want := range row {
				s := lead(t, server, state)
				after := want.next
				switch {
				case want.e != api.OK:
					mustNotDo(t, s, 1, what, api.Fault{}, want.e)
				case want.whose == 1:
					mustNotDo(t, s, 1, what, streamFault(1, want.code), api.OK)
				case want.whose == 2:
					mustNotDo(t, s, 1, what, connFault(want.code), api.OK)
				default:
					mustDo(t, s, 1, after, what)
				}
				mustState(t, s, after, 1)
				mustDropped(t, s, what == api.SendReset && want.e == api.OK, 1)
				own, peer, last, list := 0, 0, 0, []int(nil)
				if server {
					last = 1
				}
				if after != api.SClosed {
					own, peer, list = 1-last, last, []int{1}
				}
				mustTell(t, s, own, peer, last, list...)
			}
		}
	}
}

// P10.3: Do's wrong arguments: the number ahead of what happens, both ahead of the state.
func TestDoWrong(t *testing.T) {
	s := mustNew(t, true, 1)
	mustPeer(t, s, 1, true)
	mustPeer(t, s, 3, false)
	for _, id := range append(wrong(), 0, api.MaxID+1) {
		for what := -1; what <= 9; what++ {
			mustNotDo(t, s, id, what, api.Fault{}, api.ErrArg)
		}
		mustState(t, s, api.SIdle, id)
		mustDropped(t, s, false, id)
	}
	for _, what := range append(wrong(), 9) {
		for _, id := range []int{1, 2, 3, 5, api.MaxID} {
			mustNotDo(t, s, id, what, api.Fault{}, api.ErrArg)
		}
	}
	mustState(t, s, api.SIdle, 1)
	mustTell(t, s, 0, 1, 3, 1)
}

// P10.3: of a number that was not opened the next state is told, and nothing is kept.
func TestDoNotOpened(t *testing.T) {
	s := mustNew(t, true, 5)
	mustPeer(t, s, 1, true)
	mustOwn(t, s, 2)
	for _, id := range []int{3, 4, 5, 100, api.MaxID - 1, api.MaxID} {
		mustDo(t, s, id, api.SOpen, api.RecvHeaders)
		mustDo(t, s, id, api.SRemote, api.RecvEnd)
		mustDo(t, s, id, api.SOpen, api.SendHeaders)
		mustDo(t, s, id, api.SLocal, api.SendEnd)
		mustNotDo(t, s, id, api.RecvData, connFault(api.CProtocol), api.OK)
		mustNotDo(t, s, id, api.RecvReset, connFault(api.CProtocol), api.OK)
		mustNotDo(t, s, id, api.RecvWindow, connFault(api.CProtocol), api.OK)
		mustNotDo(t, s, id, api.SendData, api.Fault{}, api.ErrState)
		mustNotDo(t, s, id, api.SendReset, api.Fault{}, api.ErrState)
		mustState(t, s, api.SIdle, id)
		mustDropped(t, s, false, id)
	}
	mustTell(t, s, 1, 1, 1, 1, 2)
	mustPeer(t, s, 3, true)
	mustOwn(t, s, 4)
}

// P10.3: what comes for a dropped stream is SClosed; what goes is refused.
func TestDropped(t *testing.T) {
	s := mustNew(t, true, 1)
	mustPeer(t, s, 1, true)
	mustPeer(t, s, 3, false)
	mustOwn(t, s, 2)
	mustDo(t, s, 1, api.SClosed, api.RecvHeaders, api.SendReset)
	mustDo(t, s, 2, api.SClosed, api.SendEnd, api.SendReset)
	for _, id := range []int{1, 2, 3} {
		mustDropped(t, s, true, id)
		for range 2 {
			for what := api.RecvHeaders; what <= api.RecvWindow; what++ {
				mustDo(t, s, id, api.SClosed, what)
			}
			for what := api.SendHeaders; what <= api.SendReset; what++ {
				mustNotDo(t, s, id, what, api.Fault{}, api.ErrState)
			}
		}
		mustState(t, s, api.SClosed, id)
	}
	mustTell(t, s, 0, 0, 3)
}

// P10.3: a stream that ends otherwise than by this end's reset is not dropped.
func TestClosedNotDropped(t *testing.T) {
	ways := [][]int{
		{api.RecvEnd, api.SendEnd},
		{api.SendEnd, api.RecvEnd},
		{api.RecvHeaders, api.RecvReset},
		{api.RecvEnd, api.RecvReset},
		{api.SendEnd, api.RecvReset},
	}
	s := mustNew(t, true, 1)
	for i, way := range ways {
		id := 2*i + 1
		mustPeer(t, s, id, true)
		mustDo(t, s, id, api.SClosed, way...)
		mustState(t, s, api.SClosed, id)
		mustDropped(t, s, false, id)
		mustNotDo(t, s, id, api.RecvHeaders, connFault(api.CClosed), api.OK)
		mustNotDo(t, s, id, api.RecvEnd, connFault(api.CClosed), api.OK)
		mustNotDo(t, s, id, api.RecvData, connFault(api.CClosed), api.OK)
		mustDo(t, s, id, api.SClosed, api.RecvReset, api.RecvWindow)
		mustNotDo(t, s, id, api.SendReset, api.Fault{}, api.ErrState)
		mustDropped(t, s, false, id)
		mustTell(t, s, 0, 0, id)
	}
}

// Words of chapter 10: the last 64 dropped ones are remembered, those of both sides together.
func TestMemory(t *testing.T) {
	s := mustNew(t, false, 0)
	var order []int
	for i := range 200 {
		id := 2*i + 2
		if i%3 == 0 {
			own, e := s.Own()
			if e != api.OK {
				t.Fatalf("Own() = %d", e)
			}
			mustDo(t, s, own, api.SClosed, api.SendHeaders, api.SendReset)
			id = own
		} else {
			mustPeer(t, s, id, false)
		}
		order = append(order, id)
		cut := max(0, len(order)-64)
		mustDropped(t, s, false, order[:cut]...)
		mustDropped(t, s, true, order[cut:]...)
		mustState(t, s, api.SClosed, order...)
	}
	mustNotDo(t, s, order[135], api.RecvData, connFault(api.CClosed), api.OK)
	mustDo(t, s, order[136], api.SClosed, api.RecvData)
	mustDropped(t, s, false, 0, -1)
}

// P10.3: numbers of both sides are told together, rising; the list is the caller's.
func TestList(t *testing.T) {
	s := mustNew(t, true, 20)
	for i := range 20 {
		mustPeer(t, s, 6*i+1, true)
		mustOwn(t, s, 2*i+2)
	}
	l := s.List()
	if len(l) != 40 || !slices.IsSorted(l) || l[0] != 1 || l[39] != 115 {
		t.Fatalf("List() = %v", l)
	}
	want := slices.Clone(l)
	clear(l)
	mustTell(t, s, 20, 20, 115, want...)
}

// P10.3: a number that was passed over is used up, and its side's later ones are idle.
func TestPassedOver(t *testing.T) {
	s := mustNew(t, false, 3)
	mustPeer(t, s, 8, true)
	mustState(t, s, api.SClosed, 2, 4, 6)
	mustState(t, s, api.SIdle, 1, 3, 5, 7, 8, 9, 10)
	mustNotDo(t, s, 4, api.RecvData, connFault(api.CClosed), api.OK)
	mustDo(t, s, 4, api.SClosed, api.RecvReset)
	mustNotDo(t, s, 7, api.RecvData, connFault(api.CProtocol), api.OK)
	mustTell(t, s, 0, 1, 8, 8)
}

// P10.4: nil streams, and ones that New did not make, whatever they are asked.
func TestZero(t *testing.T) {
	for _, s := range []*stream.Streams{nil, {}, new(stream.Streams)} {
		for range 2 {
			for _, n := range append(wrong(), 0, 1, 2, 3, api.MaxID) {
				if e := s.Limit(n); e != api.ErrZero {
					t.Errorf("Limit(%d) = %d, want ErrZero", n, e)
				}
				if ok, x := s.Peer(n); ok || x != connFault(api.CInternal) {
					t.Errorf("Peer(%d) = %v, %v, want the connection's fault CInternal", n, ok, x)
				}
				mustNotDo(t, s, n, api.RecvHeaders, api.Fault{}, api.ErrZero)
				mustNotDo(t, s, 1, n, api.Fault{}, api.ErrZero)
				mustState(t, s, 0, n)
				mustDropped(t, s, false, n)
			}
			mustNotOwn(t, s, api.ErrZero)
			mustTell(t, s, 0, 0, 0)
		}
	}
}

// P5: two objects know nothing of each other.
func TestTwo(t *testing.T) {
	a, b := mustNew(t, true, 1), mustNew(t, true, 1)
	mustPeer(t, a, 1, true)
	mustPeer(t, a, 3, false)
	mustOwn(t, a, 2)
	mustTell(t, b, 0, 0, 0)
	mustDropped(t, b, false, 3)
	mustState(t, b, api.SIdle, 1, 2, 3)
}

// model is the streams told plainly: all states that were ever kept, all that were ever dropped in order.
type model struct {
	server     bool
	most, mine int
	states     map[int]int
	peers      []int
	owns       []int
	dropped    []int
	steps      [][]step
}

func (m *model) isOwn(id int) bool {
	return m.server == (id%2 == 0)
}

func (m *model) state(id int) int {
	if state, there := m.states[id]; there {
		return state
	}
	l := m.peers
	if m.isOwn(id) {
		l = m.owns
	}
	if len(l) > 0 && id < l[len(l)-1] {
		return api.SClosed
	}
	return api.SIdle
}

func (m *model) isDropped(id int) bool {
	return slices.Contains(m.dropped[max(0, len(m.dropped)-64):], id)
}

func (m *model) list() []int {
	var l []int
	for id, state := range m.states {
		if state != api.SClosed {
			l = append(l, id)
		}
	}
	slices.Sort(l)
	return l
}

func (m *model) open(own bool) int {
	n := 0
	for _, id := range m.list() {
		if m.isOwn(id) == own {
			n++
		}
	}
	return n
}

func (m *model) last() int {
	if len(m.peers) == 0 {
		return 0
	}
	return m.peers[len(m.peers)-1]
}

func (m *model) peer(id int) (bool, api.Fault) {
	if id < 1 || id > 2147483647 || m.isOwn(id) || id <= m.last() {
		return false, connFault(api.CProtocol)
	}
	m.peers = append(m.peers, id)
	if m.open(false) < m.most {
		m.states[id] = api.SIdle
		return true, api.Fault{}
	}
	m.states[id] = api.SClosed
	m.dropped = append(m.dropped, id)
	return false, api.Fault{}
}

func (m *model) own() (int, api.Errno) {
	if m.open(true) >= m.mine {
		return 0, api.ErrFull
	}
	id := 2*len(m.owns) + 1
	if m.server {
		id++
	}
	m.owns = append(m.owns, id)
	m.states[id] = api.SIdle
	return id, api.OK
}

func (m *model) do(id, what int) (int, api.Fault, api.Errno) {
	if id < 1 || id > 2147483647 || what < 0 || what > 8 {
		return 0, api.Fault{}, api.ErrArg
	}
	if m.isDropped(id) && what <= 4 {
		return api.SClosed, api.Fault{}, api.OK
	}
	x := m.steps[what][m.state(id)]
	switch {
	case x.e != api.OK:
		return 0, api.Fault{}, x.e
	case x.whose == 1:
		return 0, streamFault(id, x.code), api.OK
	case x.whose == 2:
		return 0, connFault(x.code), api.OK
	}
	if _, there := m.states[id]; there {
		m.states[id] = x.next
		if what == 8 {
			m.dropped = append(m.dropped, id)
		}
	}
	return x.next, api.Fault{}, api.OK
}

// P10.2, P10.3, P10.5: random calls beside the plain model. Closed ones stay so, no more are open than may be, numbers rise.
func TestRandom(t *testing.T) {
	for seed := range int64(40) {
		r := rand.New(rand.NewSource(seed))
		m := &model{server: seed%2 == 0, most: r.Intn(6), mine: api.MaxStreams, states: map[int]int{}, steps: steps()}
		s := mustNew(t, m.server, m.most)
		top, closed := 4, map[int]bool{}
		for range 600 {
			id := r.Intn(top+6) - 1
			switch r.Intn(10) {
			case 0:
				most := r.Intn(8) - 1
				if e := s.Limit(most); (e == api.OK) != (most >= 0) {
					t.Fatalf("Limit(%d) = %d", most, e)
				} else if most >= 0 {
					m.mine = most
				}
			case 1, 2:
				id = top - r.Intn(3) + r.Intn(4)
				ok, x := s.Peer(id)
				if yes, want := m.peer(id); ok != yes || x != want {
					t.Fatalf("Peer(%d) = %v, %v, want %v, %v", id, ok, x, yes, want)
				}
				top = max(top, id)
			case 3:
				n, e := s.Own()
				if k, want := m.own(); n != k || e != want {
					t.Fatalf("Own() = %d, %d, want %d, %d", n, e, k, want)
				}
				top = max(top, n)
			default:
				if l := m.list(); len(l) > 0 && r.Intn(4) > 0 {
					id = l[r.Intn(len(l))]
				}
				what := r.Intn(11) - 1
				n, x, e := s.Do(id, what)
				if k, bad, want := m.do(id, what); n != k || x != bad || e != want {
					t.Fatalf("Do(%d, %d) = %d, %v, %d, want %d, %v, %d", id, what, n, x, e, k, bad, want)
				}
			}
			mustTell(t, s, m.open(true), m.open(false), m.last(), m.list()...)
			for id := 1; id <= top+4; id++ {
				mustState(t, s, m.state(id), id)
				mustDropped(t, s, m.isDropped(id), id)
				if closed[id] && s.State(id) != api.SClosed {
					t.Fatalf("stream %d was closed, and is %d", id, s.State(id))
				}
				closed[id] = s.State(id) == api.SClosed
			}
			if s.Open(false) > m.most {
				t.Fatalf("Open(false) = %d, above %d", s.Open(false), m.most)
			}
		}
	}
}

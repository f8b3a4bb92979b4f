package setting_test

import (
	"math"
	"math/rand"
	"runtime"
	"slices"
	"testing"

	"aqueduct/api"
	"aqueduct/setting"
)

const top = math.MaxUint32

// kinds are the settings that count, with their values at first.
func kinds() []api.Setting {
	return []api.Setting{
		{ID: api.SetTable, Value: 4096},
		{ID: api.SetPush, Value: 1},
		{ID: api.SetStreams, Value: top},
		{ID: api.SetWindow, Value: 65535},
		{ID: api.SetFrame, Value: 16384},
		{ID: api.SetList, Value: top},
		{ID: api.SetConnect, Value: 0},
	}
}

// others are IDs that count for nothing, among them such as have the low bits of one that counts.
func others() []int {
	list := []int{0, 7, 9, 10, 16, 99, 255, 1<<16 - 1, 1<<31 - 1, -1, -4, math.MinInt, math.MinInt + 4, math.MaxInt}
	for _, k := range kinds() {
		list = append(list, -k.ID, k.ID+1<<8, k.ID+1<<16, k.ID+1<<32, k.ID+math.MinInt)
	}
	return list
}

// edges are values at, one below and one above every bound of the table.
func edges() []uint32 {
	return []uint32{
		0, 1, 2, 3, 100, 4095, 4096, 4097,
		1<<14 - 1, 1 << 14, 1<<14 + 1,
		1<<16 - 2, 1<<16 - 1, 1 << 16,
		1<<24 - 2, 1<<24 - 1, 1 << 24, 1<<24 + 1,
		1<<31 - 2, 1<<31 - 1, 1 << 31, 1<<31 + 1,
		top - 1, top,
	}
}

// codeOf is the code by the table, but of connect's second rule, told by numbers alone.
func codeOf(s api.Setting) int {
	switch {
	case s.ID == 2 && s.Value > 1, s.ID == 8 && s.Value > 1:
		return api.CProtocol
	case s.ID == 4 && s.Value > 2147483647:
		return api.CFlow
	case s.ID == 5 && (s.Value < 16384 || s.Value > 16777215):
		return api.CProtocol
	}
	return api.CNone
}

func one(id int, n uint32) []api.Setting {
	return []api.Setting{{ID: id, Value: n}}
}

func connFault(code int) api.Fault {
	return api.Fault{Is: true, Code: code}
}

func mustNew(t *testing.T) *setting.Settings {
	t.Helper()
	s := setting.New()
	if s == nil {
		t.Fatal("New() = nil")
	}
	return s
}

// mustApply asks for a whole answer of Apply.
func mustApply(t *testing.T, s *setting.Settings, l []api.Setting, change int, bad api.Fault) {
	t.Helper()
	if n, x := s.Apply(l); n != change || x != bad {
		t.Fatalf("Apply(%v) = %d, %v, want %d, %v", l, n, x, change, bad)
	}
}

// mustHave asks for all values: those at first, but for what l tells, the last of each ID.
func mustHave(t *testing.T, s *setting.Settings, l ...api.Setting) {
	t.Helper()
	for _, k := range append(kinds(), noughts()...) {
		want := k.Value
		for _, x := range l {
			if x.ID == k.ID {
				want = x.Value
			}
		}
		if n := s.Get(k.ID); n != want {
			t.Fatalf("Get(%d) = %d, want %d", k.ID, n, want)
		}
	}
}

// noughts are others, as settings whose value is 0.
func noughts() []api.Setting {
	var l []api.Setting
	for _, id := range others() {
		l = append(l, api.Setting{ID: id})
	}
	return l
}

func mustOffer(t *testing.T, s *setting.Settings, l []api.Setting) {
	t.Helper()
	if e := s.Offer(l); e != api.OK {
		t.Fatalf("Offer(%v) = %d", l, e)
	}
}

func mustAck(t *testing.T, s *setting.Settings, want []api.Setting) {
	t.Helper()
	if l, e := s.Ack(); e != api.OK || !slices.Equal(l, want) {
		t.Fatalf("Ack() = %v, %d, want %v", l, e, want)
	}
}

func mustNotAck(t *testing.T, s *setting.Settings) {
	t.Helper()
	if l, e := s.Ack(); e != api.ErrState || len(l) != 0 {
		t.Fatalf("Ack() = %v, %d, want none, ErrState", l, e)
	}
}

func mustOpen(t *testing.T, s *setting.Settings, n int) {
	t.Helper()
	if k := s.Open(); k != n {
		t.Fatalf("Open() = %d, want %d", k, n)
	}
}

// P9.1: the chapter's examples.
func TestExamples(t *testing.T) {
	for _, c := range []struct {
		s    api.Setting
		code int
	}{
		{api.Setting{ID: 2, Value: 2}, api.CProtocol},
		{api.Setting{ID: 4, Value: 1 << 31}, api.CFlow},
		{api.Setting{ID: 99, Value: 5}, api.CNone},
	} {
		if code := setting.Check(c.s); code != c.code {
			t.Errorf("Check(%v) = %d, want %d", c.s, code, c.code)
		}
	}
	mustApply(t, mustNew(t), one(api.SetWindow, 100), -65435, api.Fault{})
}

// P9.1: Check at each bound of each row of the table.
func TestCheck(t *testing.T) {
	for _, c := range []struct {
		id   int
		good []uint32
		bad  []uint32
		code int
	}{
		{1, []uint32{0, 1, 4095, 4096, 4097, 1 << 16, 1<<16 + 1, 1 << 31, top}, nil, 0},
		{2, []uint32{0, 1}, []uint32{2, 3, 256, 1 << 31, top}, api.CProtocol},
		{3, []uint32{0, 1, 1 << 10, 1<<10 + 1, 1 << 31, top}, nil, 0},
		{4, []uint32{0, 1, 65535, 65536, 2147483646, 2147483647}, []uint32{2147483648, 2147483649, top}, api.CFlow},
		{5, []uint32{16384, 16385, 16777214, 16777215}, []uint32{0, 1, 16383, 16777216, 1 << 31, top}, api.CProtocol},
		{6, []uint32{0, 1, 1 << 31, top}, nil, 0},
		{8, []uint32{0, 1}, []uint32{2, 3, 256, 1 << 31, top}, api.CProtocol},
	} {
		for _, n := range c.good {
			if code := setting.Check(api.Setting{ID: c.id, Value: n}); code != api.CNone {
				t.Errorf("Check(%d, %d) = %d, want none", c.id, n, code)
			}
		}
		for _, n := range c.bad {
			if code := setting.Check(api.Setting{ID: c.id, Value: n}); code != c.code {
				t.Errorf("Check(%d, %d) = %d, want %d", c.id, n, code, c.code)
			}
		}
	}
}

// P9.1: IDs that count for nothing may have every value; so may every ID near those that count.
func TestCheckOthers(t *testing.T) {
	ids := others()
	for id := -20; id <= 1<<10; id++ {
		ids = append(ids, id)
	}
	for _, id := range ids {
		for _, n := range edges() {
			s := api.Setting{ID: id, Value: n}
			if code := setting.Check(s); code != codeOf(s) {
				t.Fatalf("Check(%v) = %d, want %d", s, code, codeOf(s))
			}
		}
	}
}

// P9.1: Check knows nothing of connect's second rule, whatever it was asked, and whatever settings hold.
func TestCheckKeepsNothing(t *testing.T) {
	s := mustNew(t)
	mustApply(t, s, one(api.SetConnect, 1), 0, api.Fault{})
	for _, n := range []uint32{0, 1, 0, 0, 1, 1, 0} {
		if code := setting.Check(api.Setting{ID: api.SetConnect, Value: n}); code != api.CNone {
			t.Fatalf("Check(8, %d) = %d", n, code)
		}
	}
	mustHave(t, s, api.Setting{ID: api.SetConnect, Value: 1})
}

// P9.1: the values at first; of an ID that counts for nothing 0.
func TestNew(t *testing.T) {
	s := mustNew(t)
	mustHave(t, s)
	mustOpen(t, s, 0)
	mustNotAck(t, s)
}

// P5: settings hang on the calls made on them alone.
func TestTwo(t *testing.T) {
	a, b := mustNew(t), mustNew(t)
	mustApply(t, a, []api.Setting{{ID: 1, Value: 5}, {ID: 4, Value: 6}, {ID: 8, Value: 1}}, 6-65535, api.Fault{})
	mustOffer(t, a, one(1, 7))
	mustHave(t, b)
	mustOpen(t, b, 0)
	mustApply(t, b, one(8, 0), 0, api.Fault{})
	mustNotAck(t, b)
	mustHave(t, mustNew(t))
}

// P9.1: of fresh settings every single value is taken, or refused with Check's code.
func TestApplyOne(t *testing.T) {
	for _, k := range kinds() {
		for _, n := range edges() {
			s := mustNew(t)
			x := api.Setting{ID: k.ID, Value: n}
			if code := codeOf(x); code != api.CNone {
				mustApply(t, s, []api.Setting{x}, 0, connFault(code))
				mustHave(t, s)
				continue
			}
			change := 0
			if k.ID == api.SetWindow {
				change = int(n) - 65535
			}
			mustApply(t, s, []api.Setting{x}, change, api.Fault{})
			mustHave(t, s, x)
		}
	}
}

// P9.1: what counts for nothing changes nothing, alone and between others, and is not kept.
func TestApplyOthers(t *testing.T) {
	s := mustNew(t)
	var l []api.Setting
	for _, id := range others() {
		for _, n := range edges() {
			l = append(l, api.Setting{ID: id, Value: n})
		}
	}
	mustApply(t, s, l, 0, api.Fault{})
	mustHave(t, s)
	mustApply(t, s, slices.Concat(l, one(4, 7), l, one(6, 8), l), 7-65535, api.Fault{})
	mustHave(t, s, api.Setting{ID: 4, Value: 7}, api.Setting{ID: 6, Value: 8})
}

// P9.1: the change is that of the window in all, up and down, to both ends.
func TestChange(t *testing.T) {
	s := mustNew(t)
	for _, c := range []struct {
		l      []api.Setting
		change int
	}{
		{nil, 0},
		{[]api.Setting{}, 0},
		{one(4, 65535), 0},
		{one(4, 0), -65535},
		{one(4, 0), 0},
		{one(4, 2147483647), 2147483647},
		{one(4, 0), -2147483647},
		{[]api.Setting{{ID: 4, Value: 2147483647}, {ID: 4, Value: 0}}, 0},
		{[]api.Setting{{ID: 4, Value: 2147483647}, {ID: 1, Value: 9}, {ID: 4, Value: 10}}, 10},
		{[]api.Setting{{ID: 4, Value: 5}, {ID: 4, Value: 2147483647}, {ID: 4, Value: 30}, {ID: 5, Value: 20000}}, 20},
		{[]api.Setting{{ID: 1, Value: 1000}, {ID: 3, Value: 1000}, {ID: 6, Value: 1000}, {ID: 2, Value: 0}}, 0},
	} {
		mustApply(t, s, c.l, c.change, api.Fault{})
	}
	mustHave(t, s, api.Setting{ID: 1, Value: 1000}, api.Setting{ID: 2}, api.Setting{ID: 3, Value: 1000}, api.Setting{ID: 4, Value: 30}, api.Setting{ID: 5, Value: 20000}, api.Setting{ID: 6, Value: 1000})
}

// P9.1: of several values of one ID the last holds.
func TestLastHolds(t *testing.T) {
	for _, k := range kinds() {
		s := mustNew(t)
		values := []uint32{1, 0, 1}
		if k.ID == api.SetFrame {
			values = []uint32{api.MaxFrame, api.MinFrame, api.MinFrame + 1}
		}
		if k.ID == api.SetConnect {
			values = []uint32{0, 1, 1}
		}
		var l []api.Setting
		for _, n := range values {
			l = append(l, api.Setting{ID: k.ID, Value: n})
		}
		change := 0
		if k.ID == api.SetWindow {
			change = 1 - 65535
		}
		mustApply(t, s, l, change, api.Fault{})
		mustHave(t, s, l[2])
	}
}

// P9.1: those ahead of the first that may not be are applied, it and those behind it are not; the change beside the fault is 0.
func TestFault(t *testing.T) {
	for _, bad := range []api.Setting{
		{ID: 2, Value: 2}, {ID: 2, Value: top},
		{ID: 4, Value: 1 << 31}, {ID: 4, Value: top},
		{ID: 5, Value: 16383}, {ID: 5, Value: 0}, {ID: 5, Value: 1 << 24},
		{ID: 8, Value: 2}, {ID: 8, Value: top},
	} {
		ahead := []api.Setting{{ID: 4, Value: 100}, {ID: 1, Value: 7}, {ID: 2, Value: 0}, {ID: 5, Value: 20000}, {ID: 99, Value: 1}}
		behind := []api.Setting{{ID: 1, Value: 8}, {ID: 4, Value: 200}, {ID: 3, Value: 3}, {ID: 6, Value: 6}, {ID: 8, Value: 1}}
		s := mustNew(t)
		mustApply(t, s, slices.Concat(ahead, []api.Setting{bad}, behind), 0, connFault(codeOf(bad)))
		mustHave(t, s, ahead[:4]...)
		mustApply(t, s, nil, 0, api.Fault{})
		mustApply(t, s, behind, 100, api.Fault{})
		mustHave(t, s, slices.Concat(ahead[:4], behind)...)
	}
}

// P9.1: the first fault is told, whatever stands behind it.
func TestFirstFault(t *testing.T) {
	s := mustNew(t)
	mustApply(t, s, []api.Setting{{ID: 4, Value: top}, {ID: 2, Value: 2}}, 0, connFault(api.CFlow))
	mustApply(t, s, []api.Setting{{ID: 2, Value: 2}, {ID: 4, Value: top}}, 0, connFault(api.CProtocol))
	mustApply(t, s, []api.Setting{{ID: 99, Value: top}, {ID: 4, Value: top}, {ID: 5, Value: 0}}, 0, connFault(api.CFlow))
	mustHave(t, s)
}

// P9.1: connect is not 0 behind 1, in one list and in several; else it may be told again.
func TestConnect(t *testing.T) {
	bad := connFault(api.CProtocol)
	s := mustNew(t)
	mustApply(t, s, []api.Setting{{ID: 8, Value: 0}, {ID: 8, Value: 0}}, 0, api.Fault{})
	mustApply(t, s, []api.Setting{{ID: 8, Value: 1}, {ID: 8, Value: 1}}, 0, api.Fault{})
	mustHave(t, s, api.Setting{ID: 8, Value: 1})
	for range 3 {
		mustApply(t, s, []api.Setting{{ID: 1, Value: 6}, {ID: 8, Value: 0}, {ID: 1, Value: 5}}, 0, bad)
		mustHave(t, s, api.Setting{ID: 8, Value: 1}, api.Setting{ID: 1, Value: 6})
	}
	mustApply(t, s, one(8, 2), 0, bad)
	mustApply(t, s, one(8, 1), 0, api.Fault{})
	mustHave(t, s, api.Setting{ID: 8, Value: 1}, api.Setting{ID: 1, Value: 6})

	s = mustNew(t)
	mustApply(t, s, []api.Setting{{ID: 8, Value: 1}, {ID: 4, Value: 9}, {ID: 8, Value: 0}, {ID: 4, Value: 10}}, 0, bad)
	mustHave(t, s, api.Setting{ID: 8, Value: 1}, api.Setting{ID: 4, Value: 9})

	s = mustNew(t)
	mustApply(t, s, one(8, 3), 0, bad)
	mustApply(t, s, one(8, 0), 0, api.Fault{})
}

// P9.1: push may go back and forth, for connect's second rule is its own.
func TestPush(t *testing.T) {
	s := mustNew(t)
	for _, n := range []uint32{1, 0, 1, 1, 0, 0} {
		mustApply(t, s, one(2, n), 0, api.Fault{})
		mustHave(t, s, api.Setting{ID: 2, Value: n})
	}
}

// P9.1: offers are acknowledged in their order; empty ones wait like all others.
func TestOffers(t *testing.T) {
	s := mustNew(t)
	mustNotAck(t, s)
	mustOffer(t, s, one(1, 9))
	mustOpen(t, s, 1)
	mustOffer(t, s, nil)
	mustOffer(t, s, []api.Setting{{ID: 4, Value: 1}, {ID: 4, Value: 2}, {ID: 1, Value: 3}})
	mustOpen(t, s, 3)
	mustAck(t, s, one(1, 9))
	mustOpen(t, s, 2)
	mustOffer(t, s, []api.Setting{})
	mustOffer(t, s, one(1, 9))
	mustOpen(t, s, 4)
	mustAck(t, s, nil)
	mustAck(t, s, []api.Setting{{ID: 4, Value: 1}, {ID: 4, Value: 2}, {ID: 1, Value: 3}})
	mustAck(t, s, nil)
	mustAck(t, s, one(1, 9))
	for range 3 {
		mustOpen(t, s, 0)
		mustNotAck(t, s)
	}
	mustOffer(t, s, one(6, 6))
	mustOpen(t, s, 1)
	mustAck(t, s, one(6, 6))
	mustNotAck(t, s)
}

// P9.1: what is offered is told back as it is, be it one that may not be, or that counts for nothing, and is not applied.
func TestOffersAreNotLookedAt(t *testing.T) {
	s := mustNew(t)
	l := []api.Setting{{ID: 2, Value: 2}, {ID: 4, Value: top}, {ID: 5, Value: 0}, {ID: 99, Value: 1}, {ID: -1, Value: 3}, {ID: math.MaxInt, Value: 4}, {ID: 8, Value: 1}, {ID: 8, Value: 0}, {ID: 1, Value: 5}}
	mustOffer(t, s, l)
	mustHave(t, s)
	mustAck(t, s, l)
	mustHave(t, s)
	mustApply(t, s, one(8, 0), 0, api.Fault{})
}

// P9.1: what a peer has and what is offered to it have nothing to do with each other.
func TestApplyLeavesOffers(t *testing.T) {
	s := mustNew(t)
	mustOffer(t, s, one(4, 1))
	mustApply(t, s, one(4, 2), 2-65535, api.Fault{})
	mustApply(t, s, one(2, 2), 0, connFault(api.CProtocol))
	mustOpen(t, s, 1)
	mustAck(t, s, one(4, 1))
	mustHave(t, s, api.Setting{ID: 4, Value: 2})
}

// P9.1: many offers, beside a plain list of them.
func TestManyOffers(t *testing.T) {
	src := rand.New(rand.NewSource(9))
	s := mustNew(t)
	var wait [][]api.Setting
	for i := range 60000 {
		fill := i/5000%2 == 0
		if src.Intn(10) < 7 == fill {
			l := make([]api.Setting, src.Intn(4))
			for k := range l {
				l[k] = api.Setting{ID: i, Value: src.Uint32()}
			}
			mustOffer(t, s, l)
			wait = append(wait, l)
		} else if len(wait) == 0 {
			mustNotAck(t, s)
		} else {
			mustAck(t, s, wait[0])
			wait = wait[1:]
		}
		mustOpen(t, s, len(wait))
	}
}

// P4: lists that are handed in are neither changed nor kept.
func TestArguments(t *testing.T) {
	s := mustNew(t)
	whole := []api.Setting{{ID: 1, Value: 1}, {ID: 4, Value: 2}, {ID: 5, Value: 3}, {ID: 6, Value: 4}}
	l, copied := whole[:2], slices.Clone(whole)
	mustOffer(t, s, l)
	mustOffer(t, s, l[:0])
	mustApply(t, s, l, 2-65535, api.Fault{})
	mustApply(t, s, whole, 0, connFault(api.CProtocol))
	if !slices.Equal(whole, copied) {
		t.Fatalf("%v became %v", copied, whole)
	}
	for i := range whole {
		whole[i] = api.Setting{ID: 3, Value: 77}
	}
	mustHave(t, s, api.Setting{ID: 1, Value: 1}, api.Setting{ID: 4, Value: 2})
	mustAck(t, s, copied[:2])
	mustAck(t, s, nil)
}

// P4: each answer is memory of its own, up to what an append could reach.
func TestAnswers(t *testing.T) {
	s := mustNew(t)
	l := []api.Setting{{ID: 1, Value: 1}, {ID: 4, Value: 2}, {ID: 6, Value: 3}}
	for range 4 {
		mustOffer(t, s, l)
	}
	for range 4 {
		got, e := s.Ack()
		if e != api.OK || !slices.Equal(got, l) {
			t.Fatalf("Ack() = %v, %d, want %v", got, e, l)
		}
		got = got[:cap(got)]
		for i := range got {
			got[i] = api.Setting{ID: 8, Value: 1}
		}
	}
	if !slices.Equal(l, []api.Setting{{ID: 1, Value: 1}, {ID: 4, Value: 2}, {ID: 6, Value: 3}}) {
		t.Fatalf("the list became %v", l)
	}
	mustHave(t, s)
}

// Offers that wait no more take no memory, as long as others wait: a connection may live long.
func TestOffersGo(t *testing.T) {
	s := mustNew(t)
	l := make([]api.Setting, 1<<16) // a megabyte
	for range 128 {
		mustOffer(t, s, l)
	}
	for range 127 {
		mustAck(t, s, l)
	}
	runtime.GC()
	var m runtime.MemStats
	runtime.ReadMemStats(&m)
	if m.HeapAlloc > 32<<20 {
		t.Errorf("%d bytes are held", m.HeapAlloc)
	}
	mustOpen(t, s, 1)
}

// P9.2: nil settings, and ones that no call made, whatever they are asked, and however often.
func TestNone(t *testing.T) {
	for _, s := range []*setting.Settings{nil, {}, new(setting.Settings)} {
		for range 2 {
			for _, l := range [][]api.Setting{nil, {}, one(4, 100), one(2, 2), one(99, 1)} {
				mustApply(t, s, l, 0, connFault(api.CInternal))
				if e := s.Offer(l); e != api.ErrZero {
					t.Fatalf("Offer(%v) = %d", l, e)
				}
				if got, e := s.Ack(); e != api.ErrZero || len(got) != 0 {
					t.Fatalf("Ack() = %v, %d", got, e)
				}
			}
			mustOpen(t, s, 0)
			for _, x := range append(kinds(), noughts()...) {
				if n := s.Get(x.ID); n != 0 {
					t.Fatalf("Get(%d) = %d", x.ID, n)
				}
			}
		}
	}
}

// model is what Apply must do, told plainly: the values, the change or the code of the first fault.
func model(values map[int]uint32, l []api.Setting) (int, int) {
	before := int(values[4])
	for _, x := range l {
		now, counts := values[x.ID]
		if code := codeOf(x); code != api.CNone {
			return 0, code
		}
		if x.ID == 8 && now == 1 && x.Value == 0 {
			return 0, api.CProtocol
		}
		if counts {
			values[x.ID] = x.Value
		}
	}
	return int(values[4]) - before, api.CNone
}

// someList is a list of settings; few of them may not be.
func someList(src *rand.Rand) []api.Setting {
	l := make([]api.Setting, src.Intn(12))
	for i := range l {
		x := api.Setting{ID: 1 + src.Intn(9), Value: edges()[src.Intn(len(edges()))]}
		for range 4 {
			if codeOf(x) != api.CNone {
				x.Value = uint32(src.Int63()) >> src.Intn(32)
			}
		}
		if src.Intn(10) == 0 {
			x.ID = others()[src.Intn(len(others()))]
		}
		l[i] = x
	}
	return l
}

func mustMatch(t *testing.T, s *setting.Settings, values map[int]uint32) {
	t.Helper()
	for id := -2; id < 20; id++ {
		if n := s.Get(id); n != values[id] {
			t.Fatalf("Get(%d) = %d, want %d", id, n, values[id])
		}
	}
}

func firstValues() map[int]uint32 {
	m := map[int]uint32{}
	for _, k := range kinds() {
		m[k.ID] = k.Value
	}
	return m
}

// P9.1, P9.3: many lists beside a plain model; behind each one every value may be.
func TestModel(t *testing.T) {
	src := rand.New(rand.NewSource(99))
	for range 1000 {
		s, values := mustNew(t), firstValues()
		for range 10 {
			l := someList(src)
			change, code := model(values, l)
			bad := api.Fault{}
			if code != api.CNone {
				bad = connFault(code)
			}
			mustApply(t, s, l, change, bad)
			mustMatch(t, s, values)
			for _, k := range kinds() {
				if x := (api.Setting{ID: k.ID, Value: s.Get(k.ID)}); setting.Check(x) != api.CNone {
					t.Fatalf("%v may not be", x)
				}
			}
		}
	}
}

// P9.3: settings in one list, and cut into several in any way, leave the same values; the changes together are the same, and the first fault is.
func TestCuts(t *testing.T) {
	src := rand.New(rand.NewSource(999))
	for range 5000 {
		l := slices.Concat(someList(src), someList(src))
		whole, parts := mustNew(t), mustNew(t)
		change, bad := whole.Apply(l)
		sum, got, left := 0, api.Fault{}, l
		for len(left) > 0 && !got.Is {
			n := src.Intn(len(left) + 1)
			var step int
			step, got = parts.Apply(left[:n])
			sum, left = sum+step, left[n:]
		}
		if got != bad || !bad.Is && sum != change {
			t.Fatalf("Apply(%v) = %d, %v; in parts %d, %v", l, change, bad, sum, got)
		}
		for _, k := range kinds() {
			if a, b := whole.Get(k.ID), parts.Get(k.ID); a != b {
				t.Fatalf("of %v is Get(%d) = %d; in parts %d", l, k.ID, a, b)
			}
		}
	}
}

package pool_test

import (
	"cmp"
	"math"
	"math/rand"
	"slices"
	"testing"

	"aqueduct/api"
	"aqueduct/health"
	"aqueduct/pick"
	"aqueduct/pool"
)

// States of a backend's connection.
const (
	down     = 0
	dialled  = 1
	up       = 2
	draining = 3
	nobody   = -1
)

// rule is a backend's health that one bad probe brings down, and one good one up.
var rule = api.Health{Fail: 1, Rise: 1}

func newPool(t *testing.T, backs int, h api.Health, retry, most int) *pool.Pool {
	t.Helper()
	p, e := pool.New(backs, h, retry, most)
	if p == nil || e != api.OK {
		t.Fatalf("New(%d, %v, %d, %d) = %v, %d", backs, h, retry, most, p, e)
	}
	return p
}

func must(t *testing.T, what string, got, want api.Errno) {
	t.Helper()
	if got != want {
		t.Fatalf("%s = %d, want %d", what, got, want)
	}
}

func mustTick(t *testing.T, p *pool.Pool, want ...int) {
	t.Helper()
	if l := p.Tick(); !slices.Equal(l, want) {
		t.Fatalf("Tick() = %v, want %v", l, want)
	}
}

// mustTicks lets n ticks go by, of which the last alone tells of backend 0.
func mustTicks(t *testing.T, p *pool.Pool, n int) {
	t.Helper()
	for range n - 1 {
		mustTick(t, p)
	}
	mustTick(t, p, 0)
}

// mustBe looks at all that a pool tells of a backend.
func mustBe(t *testing.T, p *pool.Pool, n, state, wait int, b api.Back) {
	t.Helper()
	for range 2 {
		if p.State(n) != state || p.Wait(n) != wait {
			t.Fatalf("State(%d), Wait(%d) = %d, %d, want %d, %d", n, n, p.State(n), p.Wait(n), state, wait)
		}
		if l := p.Backs(); l[n] != b {
			t.Fatalf("Backs()[%d] = %v, want %v", n, l[n], b)
		}
	}
}

// in answers a pool of one backend that is in a state: up and draining with a load of 1 and a limit of 2.
func in(t *testing.T, state int) *pool.Pool {
	t.Helper()
	p := newPool(t, 1, rule, 3, 20)
	if state == down {
		return p
	}
	mustTick(t, p, 0)
	if state == dialled {
		return p
	}
	must(t, "Opened(0)", p.Opened(0), api.OK)
	must(t, "Limit(0, 2)", p.Limit(0, 2), api.OK)
	must(t, "Take(0)", p.Take(0), api.OK)
	if state == draining {
		must(t, "Drain(0)", p.Drain(0), api.OK)
	}
	return p
}

// told is what a pool tells of the backend that in has made.
func told(state int) api.Back {
	switch state {
	case up:
		return api.Back{Up: true, Slots: 1, Load: 1}
	case draining:
		return api.Back{Load: 1}
	}
	return api.Back{}
}

// call is one of the calls by which a backend changes.
type call struct {
	name string
	do   func(*pool.Pool, int) api.Errno
}

func calls() []call {
	return []call{
		{"Opened", (*pool.Pool).Opened}, {"Failed", (*pool.Pool).Failed}, {"Drain", (*pool.Pool).Drain},
		{"Take", (*pool.Pool).Take}, {"Put", (*pool.Pool).Put},
		{"Limit 0", func(p *pool.Pool, n int) api.Errno { return p.Limit(n, 0) }},
		{"Limit 5", func(p *pool.Pool, n int) api.Errno { return p.Limit(n, 5) }},
		{"Limit -1", func(p *pool.Pool, n int) api.Errno { return p.Limit(n, -1) }},
		{"Probe good", func(p *pool.Pool, n int) api.Errno { return p.Probe(n, true) }},
		{"Probe bad", func(p *pool.Pool, n int) api.Errno { return p.Probe(n, false) }},
	}
}

// strangers are numbers that no backend of a pool with so many has.
func strangers(backs int) []int {
	return []int{backs, backs + 1, api.MaxBacks, api.MaxBacks + 1, 1 << 32, math.MaxInt, -1, -2, -1 << 32, math.MinInt}
}

// P19.1, P19.2: the chapter's example.
func TestExample(t *testing.T) {
	p := newPool(t, 1, rule, 2, 8)
	mustTick(t, p, 0)
	must(t, "Failed(0)", p.Failed(0), api.OK)
	mustTicks(t, p, 2)
	must(t, "Failed(0)", p.Failed(0), api.OK)
	mustTicks(t, p, 4)
	must(t, "Opened(0)", p.Opened(0), api.OK)
	must(t, "Limit(0, 1)", p.Limit(0, 1), api.OK)
	must(t, "Take(0)", p.Take(0), api.OK)
	must(t, "Take(0)", p.Take(0), api.ErrFull)
}

// P19.1: what New takes, at the ends: all are down, and dialled by the first tick, in their order.
func TestNew(t *testing.T) {
	for _, backs := range []int{0, 1, 2, 15, api.MaxBacks} {
		for _, h := range []api.Health{{Fail: 1, Rise: 1}, {Fail: 1000, Rise: 1000, Hold: api.MaxTick}} {
			for _, wait := range [][2]int{{1, 1}, {1, 2}, {1, api.MaxTick}, {5, 5}, {api.MaxTick - 1, api.MaxTick}, {api.MaxTick, api.MaxTick}} {
				p := newPool(t, backs, h, wait[0], wait[1])
				if l := p.Backs(); len(l) != backs {
					t.Fatalf("Backs() = %v, want %d", l, backs)
				}
				var all []int
				for n := range backs {
					mustBe(t, p, n, down, wait[0], api.Back{})
					all = append(all, n)
				}
				mustTick(t, p, all...)
				for n := range backs {
					mustBe(t, p, n, dialled, wait[0], api.Back{})
				}
				mustTick(t, p)
			}
		}
	}
}

// P19.1: what New refuses, of no backends too.
func TestNewWrong(t *testing.T) {
	type args struct {
		backs       int
		h           api.Health
		retry, most int
	}
	var l []args
	for _, n := range []int{math.MinInt, -1 << 32, -1, api.MaxBacks + 1, 1 << 32, math.MaxInt} {
		l = append(l, args{n, rule, 1, 1}, args{n, api.Health{}, 0, 0})
	}
	for _, backs := range []int{0, 1, api.MaxBacks} {
		for _, h := range []api.Health{{}, {Fail: 1}, {Rise: 1}, {Fail: 1001, Rise: 1}, {Fail: 1, Rise: 1001}, {Fail: 1, Rise: 1, Hold: -1}, {Fail: 1, Rise: 1, Hold: api.MaxTick + 1}} {
			l = append(l, args{backs, h, 1, 1})
		}
		for _, n := range []int{math.MinInt, -1, 0, api.MaxTick + 1, 1<<32 + 1, math.MaxInt} {
			l = append(l, args{backs, rule, n, api.MaxTick}, args{backs, rule, 1, n}, args{backs, rule, n, n})
		}
		l = append(l, args{backs, rule, 2, 1}, args{backs, rule, api.MaxTick, api.MaxTick - 1})
	}
	for _, a := range l {
		if p, e := pool.New(a.backs, a.h, a.retry, a.most); p != nil || e != api.ErrArg {
			t.Fatalf("New(%v) = %v, %d, want nil, ErrArg", a, p, e)
		}
	}
}

// P19.2: which calls may be made in which state; where one may not, nothing has changed.
func TestStates(t *testing.T) {
	const no = api.ErrState
	want := map[string][4]api.Errno{
		"Opened":     {no, api.OK, no, no},
		"Failed":     {no, api.OK, api.OK, api.OK},
		"Drain":      {no, no, api.OK, no},
		"Take":       {no, no, api.OK, no},
		"Put":        {no, no, api.OK, api.OK},
		"Limit 0":    {no, no, api.OK, api.OK},
		"Limit 5":    {no, no, api.OK, api.OK},
		"Limit -1":   {no, no, api.ErrArg, api.ErrArg},
		"Probe good": {},
		"Probe bad":  {},
	}
	for _, c := range calls() {
		for state := down; state <= draining; state++ {
			p := in(t, state)
			mustBe(t, p, 0, state, 3, told(state))
			must(t, c.name, c.do(p, 0), want[c.name][state])
			if want[c.name][state] == api.OK {
				continue
			}
			mustBe(t, p, 0, state, 3, told(state))
			if state == down {
				mustTick(t, p, 0)
				continue
			}
			for range 10 {
				mustTick(t, p)
			}
		}
	}
}

// P19.2: of a number that no backend has nothing is done; wrong numbers come ahead of wrong states.
func TestStrangers(t *testing.T) {
	for state := down; state <= draining; state++ {
		p := in(t, state)
		for _, n := range strangers(1) {
			for _, c := range calls() {
				must(t, c.name, c.do(p, n), api.ErrArg)
			}
			if p.State(n) != nobody || p.Wait(n) != 0 {
				t.Fatalf("State(%d), Wait(%d) = %d, %d", n, n, p.State(n), p.Wait(n))
			}
		}
		mustBe(t, p, 0, state, 3, told(state))
	}
	p := newPool(t, 0, rule, 1, 1)
	for _, n := range append(strangers(0), 0) {
		for _, c := range calls() {
			must(t, c.name, c.do(p, n), api.ErrArg)
		}
		if p.State(n) != nobody || p.Wait(n) != 0 {
			t.Fatalf("State(%d), Wait(%d) = %d, %d", n, n, p.State(n), p.Wait(n))
		}
	}
	mustTick(t, p)
}

// P19.2, P19.4: the waits, doubled up to Most, and Retry again behind Opened alone.
func TestWaits(t *testing.T) {
	for _, c := range []struct {
		retry, most int
		waits       []int
	}{
		{1, 1, []int{1, 1, 1}}, {1, 2, []int{1, 2, 2}}, {1, 3, []int{1, 2, 3, 3}}, {2, 8, []int{2, 4, 8, 8}},
		{2, 7, []int{2, 4, 7, 7}}, {3, 5, []int{3, 5, 5}}, {5, 5, []int{5, 5}}, {3, 100, []int{3, 6, 12, 24, 48, 96, 100, 100}},
		{64, 300, []int{64, 128, 256, 300, 300}},
	} {
		p := newPool(t, 1, rule, c.retry, c.most)
		mustTick(t, p, 0)
		for range 2 {
			for i, wait := range c.waits {
				mustBe(t, p, 0, dialled, wait, api.Back{})
				must(t, "Failed(0)", p.Failed(0), api.OK)
				must(t, "Failed(0)", p.Failed(0), api.ErrState)
				mustBe(t, p, 0, down, c.waits[min(i+1, len(c.waits)-1)], api.Back{})
				mustTicks(t, p, wait)
			}
			must(t, "Opened(0)", p.Opened(0), api.OK)
			mustBe(t, p, 0, up, c.retry, api.Back{Up: true})
			must(t, "Drain(0)", p.Drain(0), api.OK)
			mustBe(t, p, 0, down, c.retry, api.Back{})
			mustTicks(t, p, 1)
		}
	}
}

// P19.2: one that fails has no load, whatever it was; its wait is that of one that was up.
func TestFailed(t *testing.T) {
	for _, state := range []int{dialled, up, draining} {
		p := in(t, state)
		must(t, "Failed(0)", p.Failed(0), api.OK)
		mustBe(t, p, 0, down, 6, api.Back{})
		must(t, "Put(0)", p.Put(0), api.ErrState)
		mustTicks(t, p, 3)
		must(t, "Opened(0)", p.Opened(0), api.OK)
		mustBe(t, p, 0, up, 3, api.Back{Up: true})
		must(t, "Take(0)", p.Take(0), api.ErrFull)
		must(t, "Put(0)", p.Put(0), api.ErrState)
	}
}

// P19.2: a wait that has grown is left as it is by being dialled, and by ticks.
func TestWaitStays(t *testing.T) {
	p := newPool(t, 1, rule, 1, 50)
	mustTick(t, p, 0)
	for _, wait := range []int{1, 2, 4} {
		must(t, "Failed(0)", p.Failed(0), api.OK)
		mustTicks(t, p, wait)
		for range 9 {
			mustTick(t, p)
			mustBe(t, p, 0, dialled, 2*wait, api.Back{})
		}
	}
}

// P19.2: one that drains takes no load, and is down when it has none, at once or behind the last Put.
func TestDrain(t *testing.T) {
	for load := range 5 {
		p := newPool(t, 1, rule, 7, 9)
		mustTick(t, p, 0)
		must(t, "Opened(0)", p.Opened(0), api.OK)
		must(t, "Limit(0, 5)", p.Limit(0, 5), api.OK)
		for range load {
			must(t, "Take(0)", p.Take(0), api.OK)
		}
		must(t, "Drain(0)", p.Drain(0), api.OK)
		for left := load; left > 0; left-- {
			mustBe(t, p, 0, draining, 7, api.Back{Load: left})
			must(t, "Take(0)", p.Take(0), api.ErrState)
			must(t, "Limit(0, 9)", p.Limit(0, 9), api.OK)
			must(t, "Limit(0, 0)", p.Limit(0, 0), api.OK)
			mustTick(t, p)
			mustBe(t, p, 0, draining, 7, api.Back{Load: left})
			must(t, "Put(0)", p.Put(0), api.OK)
		}
		mustBe(t, p, 0, down, 7, api.Back{})
		must(t, "Put(0)", p.Put(0), api.ErrState)
		must(t, "Failed(0)", p.Failed(0), api.ErrState)
		mustTick(t, p, 0)
		mustBe(t, p, 0, dialled, 7, api.Back{})
		mustTick(t, p)
	}
}

// P19.2: one that is up and has no load any more stays up.
func TestPutStays(t *testing.T) {
	p := in(t, up)
	must(t, "Put(0)", p.Put(0), api.OK)
	mustBe(t, p, 0, up, 3, api.Back{Up: true, Slots: 2})
	must(t, "Put(0)", p.Put(0), api.ErrState)
	for range 9 {
		mustTick(t, p)
	}
	mustBe(t, p, 0, up, 3, api.Back{Up: true, Slots: 2})
}

// P19.2, P19.3, P19.4: loads go up to the limit; one that fell below the load leaves no slot, and no load goes by it.
func TestLimit(t *testing.T) {
	p := newPool(t, 1, rule, 1, 1)
	mustTick(t, p, 0)
	must(t, "Opened(0)", p.Opened(0), api.OK)
	mustBe(t, p, 0, up, 1, api.Back{Up: true})
	must(t, "Take(0)", p.Take(0), api.ErrFull)
	for _, slots := range []int{0, 1, 3, 8, 100} {
		must(t, "Limit", p.Limit(0, slots), api.OK)
		for load := p.Backs()[0].Load; load < slots; load++ {
			mustBe(t, p, 0, up, 1, api.Back{Up: true, Slots: slots - load, Load: load})
			must(t, "Take(0)", p.Take(0), api.OK)
		}
		mustBe(t, p, 0, up, 1, api.Back{Up: true, Load: slots})
		must(t, "Take(0)", p.Take(0), api.ErrFull)
	}
	for _, slots := range []int{-1, -2, -1 << 32, math.MinInt} {
		must(t, "Limit below 0", p.Limit(0, slots), api.ErrArg)
		mustBe(t, p, 0, up, 1, api.Back{Up: true, Load: 100})
	}
	must(t, "Limit(0, 98)", p.Limit(0, 98), api.OK)
	for load := 100; load >= 98; load-- {
		mustBe(t, p, 0, up, 1, api.Back{Up: true, Load: load})
		must(t, "Take(0)", p.Take(0), api.ErrFull)
		must(t, "Put(0)", p.Put(0), api.OK)
	}
	mustBe(t, p, 0, up, 1, api.Back{Up: true, Slots: 1, Load: 97})
	must(t, "Limit, the greatest", p.Limit(0, math.MaxInt), api.OK)
	mustBe(t, p, 0, up, 1, api.Back{Up: true, Slots: math.MaxInt - 97, Load: 97})
	must(t, "Limit(0, 0)", p.Limit(0, 0), api.OK)
	mustBe(t, p, 0, up, 1, api.Back{Up: true, Load: 97})
}

// P19.2: a limit is of one connection, not of the next.
func TestLimitAnew(t *testing.T) {
	p := in(t, up)
	must(t, "Put(0)", p.Put(0), api.OK)
	must(t, "Drain(0)", p.Drain(0), api.OK)
	mustTick(t, p, 0)
	must(t, "Limit(0, 2)", p.Limit(0, 2), api.ErrState)
	must(t, "Opened(0)", p.Opened(0), api.OK)
	mustBe(t, p, 0, up, 3, api.Back{Up: true})
	must(t, "Take(0)", p.Take(0), api.ErrFull)
}

// P19.1, P19.2, P19.3: a backend's health, with its hold, runs on whatever its connection is; its slots and its load are told all the same.
func TestHealth(t *testing.T) {
	h := api.Health{Fail: 2, Rise: 2, Hold: 2}
	p := newPool(t, 2, h, 1, 1)
	must(t, "Probe", p.Probe(0, false), api.OK)
	must(t, "Probe", p.Probe(0, false), api.OK)
	must(t, "Probe", p.Probe(1, false), api.OK)
	mustTick(t, p, 0, 1)
	for n := range 2 {
		must(t, "Opened", p.Opened(n), api.OK)
		must(t, "Limit", p.Limit(n, 3), api.OK)
	}
	must(t, "Take(0)", p.Take(0), api.OK)
	mustBe(t, p, 0, up, 1, api.Back{Slots: 2, Load: 1})
	mustBe(t, p, 1, up, 1, api.Back{Up: true, Slots: 3})
	must(t, "Probe", p.Probe(0, true), api.OK)
	must(t, "Probe", p.Probe(0, true), api.OK)
	mustBe(t, p, 0, up, 1, api.Back{Slots: 2, Load: 1})
	mustTick(t, p)
	mustBe(t, p, 0, up, 1, api.Back{Slots: 2, Load: 1})
	must(t, "Probe", p.Probe(0, true), api.OK)
	mustBe(t, p, 0, up, 1, api.Back{Up: true, Slots: 2, Load: 1})
	must(t, "Probe", p.Probe(1, false), api.OK)
	mustBe(t, p, 1, up, 1, api.Back{Slots: 3})
	must(t, "Failed(1)", p.Failed(1), api.OK)
	mustTick(t, p, 1)
	must(t, "Opened(1)", p.Opened(1), api.OK)
	mustBe(t, p, 1, up, 1, api.Back{})
}

// P19.1: those that are dialled are told by the wheel's order: those whose timers were set earlier first.
func TestOrder(t *testing.T) {
	p := newPool(t, 4, rule, 2, 64)
	mustTick(t, p, 0, 1, 2, 3)
	for _, n := range []int{2, 0, 3} {
		must(t, "Failed", p.Failed(n), api.OK)
	}
	mustTick(t, p)
	mustTick(t, p, 2, 0, 3)
	must(t, "Failed(3)", p.Failed(3), api.OK) // for 4 ticks
	mustTick(t, p)
	must(t, "Failed(2)", p.Failed(2), api.OK) // for 4 ticks
	mustTick(t, p)
	must(t, "Failed(1)", p.Failed(1), api.OK) // for 2 ticks
	mustTick(t, p)
	must(t, "Opened(0)", p.Opened(0), api.OK)
	must(t, "Drain(0)", p.Drain(0), api.OK) // for the next tick
	mustTick(t, p, 3, 1, 0)
	mustTick(t, p, 2)
	mustTick(t, p)
}

// P19.3: of a nil pool, and of one that New did not make.
func TestNotMade(t *testing.T) {
	for _, p := range []*pool.Pool{nil, new(pool.Pool)} {
		for _, n := range append(strangers(0), 0) {
			for _, c := range calls() {
				must(t, c.name, c.do(p, n), api.ErrZero)
			}
			if p.State(n) != -1 || p.Wait(n) != 0 {
				t.Fatalf("State(%d), Wait(%d) = %d, %d", n, n, p.State(n), p.Wait(n))
			}
		}
		mustTick(t, p)
		if l := p.Backs(); len(l) != 0 {
			t.Fatalf("Backs() = %v, want none", l)
		}
	}
}

// P4: what is answered is new memory.
func TestNewMemory(t *testing.T) {
	p := newPool(t, 3, rule, 1, 1)
	l := p.Tick()
	must(t, "Opened(1)", p.Opened(1), api.OK)
	b := p.Backs()
	for n := range 3 {
		l[n], b[n] = -9, api.Back{Up: true, Slots: 7, Load: 7}
	}
	mustBe(t, p, 0, dialled, 1, api.Back{})
	mustBe(t, p, 1, up, 1, api.Back{Up: true})
	for _, n := range []int{1, 0, 2} {
		must(t, "Failed", p.Failed(n), api.OK)
	}
	mustTick(t, p, 1, 0, 2)
}

// P5: what is done to one pool, or to one backend, leaves all others as they are.
func TestApart(t *testing.T) {
	p, q := newPool(t, 3, rule, 1, 9), newPool(t, 3, rule, 1, 9)
	mustTick(t, p, 0, 1, 2)
	mustBe(t, q, 1, down, 1, api.Back{})
	mustTick(t, q, 0, 1, 2)
	for n := range 3 {
		must(t, "Opened", p.Opened(n), api.OK)
		must(t, "Limit", p.Limit(n, 4), api.OK)
		must(t, "Take", p.Take(n), api.OK)
	}
	for _, c := range calls() {
		c.do(p, 1)
	}
	for _, n := range []int{0, 2} {
		mustBe(t, p, n, up, 1, api.Back{Up: true, Slots: 3, Load: 1})
		mustBe(t, q, n, dialled, 1, api.Back{})
	}
	mustTick(t, q)
}

// plain is a pool that keeps all that has come, and looks its answers up.
type plain struct {
	h           api.Health
	retry, most int
	now, sets   int
	backs       []one
}

// one is a backend of a plain pool.
type one struct {
	state, may, load, wait int
	due, set               int   // of one that is down: the tick that dials it, and when that was said
	came                   []int // by health.Fold's numbers
}

func newPlain(backs int, h api.Health, retry, most int) *plain {
	m := &plain{h: h, retry: retry, most: most, backs: make([]one, backs)}
	for n := range m.backs {
		m.backs[n].wait = retry
		m.fall(n, 1)
	}
	return m
}

func (m *plain) fall(n, after int) {
	m.sets++
	b := &m.backs[n]
	b.state, b.may, b.load, b.due, b.set = down, 0, 0, m.now+after, m.sets
}

func (m *plain) tick() []int {
	m.now++
	var l []int
	for n := range m.backs {
		b := &m.backs[n]
		b.came = append(b.came, 2)
		if b.state == down && b.due == m.now {
			l = append(l, n)
			b.state = dialled
		}
	}
	slices.SortFunc(l, func(a, b int) int { return cmp.Compare(m.backs[a].set, m.backs[b].set) })
	return l
}

// do does what a call of that name does.
func (m *plain) do(name string, n int) api.Errno {
	b := &m.backs[n]
	holds := b.state == up || b.state == draining
	switch {
	case name == "Probe good":
		b.came = append(b.came, 1)
	case name == "Probe bad":
		b.came = append(b.came, 0)
	case name == "Opened" && b.state == dialled:
		b.state, b.wait = up, m.retry
	case name == "Failed" && b.state != down:
		m.fall(n, b.wait)
		b.wait = min(2*b.wait, m.most)
	case name == "Drain" && b.state == up:
		b.state = draining
	case name == "Put" && b.load > 0:
		b.load--
	case name == "Take" && b.state == up && b.load >= b.may:
		return api.ErrFull
	case name == "Take" && b.state == up:
		b.load++
	case name == "Limit 0" && holds:
		b.may = 0
	case name == "Limit 5" && holds:
		b.may = 5
	case name == "Limit -1" && holds:
		return api.ErrArg
	default:
		return api.ErrState
	}
	if b.state == draining && b.load == 0 {
		m.fall(n, 1)
	}
	return api.OK
}

func (m *plain) seen(t *testing.T, n int) api.Back {
	t.Helper()
	b := m.backs[n]
	if b.state != up {
		return api.Back{Load: b.load}
	}
	s, e := health.Fold(m.h, b.came)
	must(t, "Fold", e, api.OK)
	return api.Back{Up: s == api.HealthUp, Slots: max(b.may-b.load, 0), Load: b.load}
}

// mustFollow holds a pool against a plain one.
func mustFollow(t *testing.T, p *pool.Pool, m *plain) {
	t.Helper()
	l := p.Backs()
	if len(l) != len(m.backs) {
		t.Fatalf("Backs() = %v, want %d", l, len(m.backs))
	}
	for n, b := range m.backs {
		if p.State(n) != b.state || p.Wait(n) != b.wait || l[n] != m.seen(t, n) {
			t.Fatalf("backend %d: %d, %d, %v, want %d, %d, %v", n, p.State(n), p.Wait(n), l[n], b.state, b.wait, m.seen(t, n))
		}
	}
}

// step does one call on both, or a tick, and holds them against each other.
func step(t *testing.T, p *pool.Pool, m *plain, c call, n int) {
	t.Helper()
	if c.do == nil {
		mustTick(t, p, m.tick()...)
	} else {
		must(t, c.name, c.do(p, n), m.do(c.name, n))
	}
	mustFollow(t, p, m)
}

// P19.1 to P19.4: all short rows of calls, from the beginning and from each state.
func TestAllShort(t *testing.T) {
	const long = 4
	kinds := append(calls(), call{name: "Tick"})
	named := func(name string) call {
		return kinds[slices.IndexFunc(kinds, func(c call) bool { return c.name == name })]
	}
	rows := 1
	for range long {
		rows *= len(kinds)
	}
	for _, ahead := range [][]string{nil, {"Tick"}, {"Tick", "Failed"}, {"Tick", "Opened"}, {"Tick", "Opened", "Limit 5", "Take"}, {"Tick", "Opened", "Limit 5", "Take", "Take", "Drain"}} {
		for row := range rows {
			p, m := newPool(t, 1, rule, 2, 3), newPlain(1, rule, 2, 3)
			for _, name := range ahead {
				step(t, p, m, named(name), 0)
			}
			for range long {
				step(t, p, m, kinds[row%len(kinds)], 0)
				row /= len(kinds)
			}
		}
	}
}

// P19.1 to P19.4: random calls on pools of many backends.
func TestRandom(t *testing.T) {
	r := rand.New(rand.NewSource(19))
	kinds := append(calls(), call{name: "Tick"}, call{name: "Tick"}, call{name: "Tick"})
	often := []call{kinds[0], kinds[3], kinds[4], kinds[6], kinds[8]} // Opened, Take, Put, Limit 5, Probe good: else none would be up for long
	for range 300 {
		backs := 1 + r.Intn(api.MaxBacks)
		h := api.Health{Fail: 1 + r.Intn(3), Rise: 1 + r.Intn(3), Hold: r.Intn(4)}
		retry := 1 + r.Intn(5)
		most := retry + r.Intn(30)
		p, m := newPool(t, backs, h, retry, most), newPlain(backs, h, retry, most)
		few := 1 + r.Intn(backs)
		for range 400 {
			c := kinds[r.Intn(len(kinds))]
			if r.Intn(2) == 0 {
				c = often[r.Intn(len(often))]
			}
			step(t, p, m, c, r.Intn(few))
		}
	}
}

// P19.3, P19.4: what pick chooses of a pool's backends can be taken, till there is none.
func TestChosen(t *testing.T) {
	p := newPool(t, 4, rule, 1, 1)
	mustTick(t, p, 0, 1, 2, 3)
	for n := range 4 {
		must(t, "Opened", p.Opened(n), api.OK)
		must(t, "Limit", p.Limit(n, 2+n), api.OK)
	}
	must(t, "Take(2)", p.Take(2), api.OK)
	must(t, "Drain(2)", p.Drain(2), api.OK)
	must(t, "Probe(3)", p.Probe(3, false), api.OK)
	var got []int
	for {
		n, e := pick.Choose(p.Backs(), 0)
		if e != api.OK {
			break
		}
		must(t, "Take", p.Take(n), api.OK)
		got = append(got, n)
	}
	if !slices.Equal(got, []int{0, 1, 0, 1, 1}) {
		t.Fatalf("chosen: %v", got)
	}
}

package health_test

import (
	"math"
	"math/rand"
	"slices"
	"testing"

	"aqueduct/api"
	"aqueduct/health"
)

// What may come, by Fold's numbers.
const (
	bad  = 0
	good = 1
	tick = 2
)

// state is all that a model tells.
type state struct {
	up        bool
	run, hold int
}

func newModel(t *testing.T, h api.Health) *health.Model {
	t.Helper()
	m, e := health.New(h)
	if m == nil || e != api.OK {
		t.Fatalf("New(%v) = %v, %d", h, m, e)
	}
	mustBe(t, m, state{up: true})
	return m
}

func mustBe(t *testing.T, m *health.Model, want state) {
	t.Helper()
	for range 2 {
		if got := (state{m.Up(), m.Run(), m.Hold()}); got != want {
			t.Fatalf("Up, Run, Hold = %v, want %v", got, want)
		}
	}
}

// give lets something come to a model.
func give(t *testing.T, m *health.Model, kind int) {
	t.Helper()
	e := api.OK
	switch kind {
	case bad, good:
		e = m.Probe(kind == good)
	case tick:
		e = m.Tick()
	}
	if e != api.OK {
		t.Fatalf("what came of kind %d: %d", kind, e)
	}
}

// mustGive lets something come to a model n times, which is to change as want says each time.
func mustGive(t *testing.T, m *health.Model, kind, n int, want func(n int) state) {
	t.Helper()
	for i := range n {
		give(t, m, kind)
		mustBe(t, m, want(i+1))
	}
}

func mustFold(t *testing.T, h api.Health, l []int, up bool) {
	t.Helper()
	want := api.HealthDown
	if up {
		want = api.HealthUp
	}
	for range 2 {
		if s, e := health.Fold(h, l); s != want || e != api.OK {
			t.Fatalf("Fold(%v, %v) = %d, %d, want %d", h, l, s, e, want)
		}
	}
}

// same tells of a model that is not to change.
func same(s state) func(int) state {
	return func(int) state { return s }
}

// upRun tells of a model that is up, with a run that grows.
func upRun(n int) state {
	return state{up: true, run: n}
}

// downRun tells of a model that is down, with a run that grows from a number, and a hold.
func downRun(from, hold int) func(int) state {
	return func(n int) state { return state{run: from + n, hold: hold} }
}

// P17.1: the chapter's example.
func TestExample(t *testing.T) {
	m := newModel(t, api.Health{Fail: 2, Rise: 1, Hold: 1})
	give(t, m, bad)
	mustBe(t, m, state{up: true, run: 1})
	give(t, m, bad)
	mustBe(t, m, state{hold: 1})
	give(t, m, good)
	mustBe(t, m, state{run: 1, hold: 1})
	give(t, m, tick)
	mustBe(t, m, state{run: 1})
	give(t, m, good)
	mustBe(t, m, state{up: true})
}

// wrongRules are rules of which one number or more can't be.
func wrongRules() []api.Health {
	least, most := []int{math.MinInt, math.MinInt + 1, -1 << 32, -1000, -2, -1}, []int{api.MaxTick + 1, api.MaxTick + 2, 1 << 31, 1 << 32, 1<<32 + 1, math.MaxInt - 1, math.MaxInt}
	counts := append(append([]int{0, 1001, 1002, 1024, 1 << 16, api.MaxTick}, least...), most...)
	l := []api.Health{{}}
	for _, n := range counts {
		l = append(l, api.Health{Fail: n, Rise: 1, Hold: 1}, api.Health{Fail: 1000, Rise: n, Hold: 1}, api.Health{Fail: n, Rise: n, Hold: -1})
	}
	for _, n := range append(least, most...) {
		l = append(l, api.Health{Fail: 1, Rise: 1, Hold: n}, api.Health{Fail: 1000, Rise: 1000, Hold: n})
	}
	return l
}

// P17.1, P17.2: what New refuses, and Fold with it, whatever has come.
func TestWrong(t *testing.T) {
	for _, h := range wrongRules() {
		if m, e := health.New(h); m != nil || e != api.ErrArg {
			t.Fatalf("New(%v) = %v, %d, want nil, ErrArg", h, m, e)
		}
		for _, l := range [][]int{nil, {}, {bad}, {bad, bad, bad}, {good}, {tick}, {7}} {
			if s, e := health.Fold(h, l); s != 0 || e != api.ErrArg {
				t.Fatalf("Fold(%v, %v) = %d, %d, want 0, ErrArg", h, l, s, e)
			}
		}
	}
}

// P17.1: rules at the ends of what New takes.
func TestEnds(t *testing.T) {
	for _, fail := range []int{1, 2, 999, 1000} {
		for _, rise := range []int{1, 2, 999, 1000} {
			for _, hold := range []int{0, 1, api.MaxTick - 1, api.MaxTick} {
				h := api.Health{Fail: fail, Rise: rise, Hold: hold}
				m := newModel(t, h)
				mustGive(t, m, bad, fail-1, upRun)
				give(t, m, bad)
				mustBe(t, m, state{hold: hold})
				mustGive(t, m, good, rise-1, downRun(0, hold))
				give(t, m, good)
				if hold == 0 {
					mustBe(t, m, state{up: true})
				} else {
					mustBe(t, m, state{run: rise, hold: hold})
				}
			}
		}
	}
}

// P17.1: while it is up a good probe makes the run 0, at each of its lengths, and ticks leave it.
func TestUp(t *testing.T) {
	for _, fail := range []int{1, 2, 3, 7, 1000} {
		m := newModel(t, api.Health{Fail: fail, Rise: 3, Hold: 4})
		mustGive(t, m, good, 3, same(state{up: true}))
		mustGive(t, m, tick, 3, same(state{up: true}))
		for run := range min(fail, 20) {
			mustGive(t, m, bad, run, upRun)
			mustGive(t, m, tick, 9, same(upRun(run)))
			mustGive(t, m, good, 2, same(state{up: true}))
		}
		mustGive(t, m, bad, fail-1, upRun)
		give(t, m, tick)
		give(t, m, bad)
		mustBe(t, m, state{hold: 4})
	}
}

// P17.1: while it is down a bad probe makes the run 0, at each of its lengths, and leaves the hold.
func TestDown(t *testing.T) {
	for _, rise := range []int{1, 2, 3, 7, 1000} {
		m := newModel(t, api.Health{Fail: 1, Rise: rise, Hold: 2})
		give(t, m, bad)
		mustBe(t, m, state{hold: 2})
		mustGive(t, m, bad, 3, same(state{hold: 2}))
		mustGive(t, m, good, rise+5, downRun(0, 2))
		mustGive(t, m, bad, 2, same(state{hold: 2}))
		give(t, m, tick)
		mustGive(t, m, bad, 2, same(state{hold: 1}))
		mustGive(t, m, tick, 3, same(state{}))
		for run := range min(rise, 20) {
			mustGive(t, m, good, run, downRun(0, 0))
			mustGive(t, m, tick, 2, same(state{run: run}))
			mustGive(t, m, bad, 2, same(state{}))
		}
		mustGive(t, m, good, rise-1, downRun(0, 0))
		give(t, m, good)
		mustBe(t, m, state{up: true})
	}
}

// P17.1: the hold is one less by each tick, and no probe brings the model up ahead of its end, nor does its last tick.
func TestHold(t *testing.T) {
	for _, rise := range []int{1, 2, 5} {
		for _, hold := range []int{1, 2, 3, 100} {
			m := newModel(t, api.Health{Fail: 1, Rise: rise, Hold: hold})
			give(t, m, bad)
			for gone := range hold {
				mustBe(t, m, state{run: gone, hold: hold - gone})
				give(t, m, good)
				mustBe(t, m, state{run: gone + 1, hold: hold - gone})
				give(t, m, tick)
			}
			mustBe(t, m, state{run: hold})
			mustGive(t, m, tick, 3, same(state{run: hold}))
			mustGive(t, m, good, rise-hold-1, downRun(hold, 0))
			give(t, m, good)
			mustBe(t, m, state{up: true})
		}
	}
}

// P17.1: a model that came up goes down by a whole run, with a whole hold, as at first.
func TestAgain(t *testing.T) {
	m := newModel(t, api.Health{Fail: 3, Rise: 2, Hold: 2})
	for range 5 {
		mustGive(t, m, bad, 2, upRun)
		give(t, m, bad)
		mustBe(t, m, state{hold: 2})
		mustGive(t, m, good, 4, downRun(0, 2))
		mustGive(t, m, tick, 2, func(n int) state { return state{run: 4, hold: 2 - n} })
		give(t, m, bad)
		mustBe(t, m, state{})
		mustGive(t, m, good, 1, downRun(0, 0))
		give(t, m, good)
		mustBe(t, m, state{up: true})
	}
}

// P17.2: each number of what comes; those that are no kind are nothing, and break no run.
func TestFold(t *testing.T) {
	h := api.Health{Fail: 2, Rise: 2, Hold: 1}
	for _, c := range []struct {
		l  []int
		up bool
	}{
		{nil, true}, {[]int{}, true}, {[]int{bad}, true}, {[]int{good}, true}, {[]int{tick}, true},
		{[]int{bad, good, bad}, true}, {[]int{bad, bad}, false}, {[]int{bad, tick, bad}, false},
		{[]int{bad, bad, good, good}, false}, {[]int{bad, bad, good, good, tick}, false},
		{[]int{bad, bad, good, good, tick, good}, true}, {[]int{bad, bad, tick, good, good}, true},
		{[]int{bad, bad, tick, good, bad, good}, false}, {[]int{tick, bad, bad, good, good}, false},
		{[]int{bad, bad, good, tick, good}, true}, {[]int{bad, bad, good, tick, good, bad, bad}, false},
	} {
		mustFold(t, h, c.l, c.up)
		for _, nothing := range []int{math.MinInt, -1 << 32, -2, -1, 3, 4, 7, 1 << 32, 1<<32 + 1, 1<<32 + 2, math.MaxInt} {
			l := []int{nothing}
			for _, kind := range c.l {
				l = append(l, kind, nothing)
			}
			mustFold(t, h, l, c.up)
		}
	}
}

// P17.1, P17.2: a long row, of which nothing is lost.
func TestLong(t *testing.T) {
	h := api.Health{Fail: 1000, Rise: 1000, Hold: 1 << 16}
	l := slices.Repeat([]int{bad}, 999)
	mustFold(t, h, l, true)
	l = append(l, bad)
	mustFold(t, h, l, false)
	l = append(l, slices.Repeat([]int{good, tick}, 1<<16)...)
	mustFold(t, h, l, false)
	mustFold(t, h, append(l, good), true)
	mustFold(t, h, append(l[:len(l)-1], good, good), false)
}

// P17.2: of a nil model, and of one that New did not make.
func TestNotMade(t *testing.T) {
	for _, m := range []*health.Model{nil, new(health.Model)} {
		for range 3 {
			for _, good := range []bool{false, true} {
				if e := m.Probe(good); e != api.ErrZero {
					t.Fatalf("Probe(%v) = %d, want ErrZero", good, e)
				}
			}
			if e := m.Tick(); e != api.ErrZero {
				t.Fatalf("Tick() = %d, want ErrZero", e)
			}
			mustBe(t, m, state{})
		}
	}
}

// P4: what Fold is given is left as it is.
func TestFoldLeaves(t *testing.T) {
	l := []int{bad, 7, bad, tick, good, -1, bad}
	was := slices.Clone(l)
	mustFold(t, api.Health{Fail: 1, Rise: 2, Hold: 1}, l, false)
	if !slices.Equal(l, was) {
		t.Fatalf("Fold made its list %v", l)
	}
}

// P5: what comes to one model leaves all others as they are.
func TestApart(t *testing.T) {
	h := api.Health{Fail: 2, Rise: 1, Hold: 3}
	v, w := newModel(t, h), newModel(t, h)
	give(t, v, bad)
	mustBe(t, w, state{up: true})
	give(t, w, bad)
	give(t, w, bad)
	mustBe(t, v, state{up: true, run: 1})
	give(t, v, tick)
	mustBe(t, w, state{hold: 3})
	give(t, w, tick)
	give(t, v, bad)
	mustBe(t, v, state{hold: 3})
	mustBe(t, w, state{hold: 2})
}

// runOf tells how many of the probes at the end of l are of one kind, whatever ticks are between.
func runOf(kind int, l []int) int {
	n := 0
	for _, k := range slices.Backward(l) {
		if k == kind {
			n++
		} else if k != tick {
			break
		}
	}
	return n
}

// ticksOf tells how many ticks are in l.
func ticksOf(l []int) int {
	n := 0
	for _, k := range l {
		if k == tick {
			n++
		}
	}
	return n
}

// looked is what the promise says of all that has come: it looks back from each place to where the state began.
func looked(h api.Health, l []int) state {
	up, from := true, 0
	for end := 1; end <= len(l); end++ {
		part := l[from:end]
		hold := max(0, h.Hold-ticksOf(part))
		turns := up && runOf(bad, part) == h.Fail || !up && l[end-1] == good && runOf(good, part) >= h.Rise && hold == 0
		if turns {
			up, from = !up, end
		}
	}
	if up {
		return state{up: true, run: runOf(bad, l[from:])}
	}
	return state{run: runOf(good, l[from:]), hold: max(0, h.Hold-ticksOf(l[from:]))}
}

// mustFollow gives all of l to a new model, and holds it, and Fold, against what is looked up, at each place.
func mustFollow(t *testing.T, h api.Health, l []int) {
	t.Helper()
	m := newModel(t, h)
	for i, kind := range l {
		give(t, m, kind)
		want := looked(h, l[:i+1])
		if got := (state{m.Up(), m.Run(), m.Hold()}); got != want {
			t.Fatalf("%v behind %v: %v, want %v", h, l[:i+1], got, want)
		}
	}
	mustFold(t, h, l, m.Up())
}

// P17.3: the model is what Fold says, at all short rows of all small rules.
func TestAllShort(t *testing.T) {
	const long = 7
	rows := 1
	for range long {
		rows *= 3
	}
	for fail := 1; fail <= 3; fail++ {
		for rise := 1; rise <= 3; rise++ {
			for hold := 0; hold <= 2; hold++ {
				for row := range rows {
					l := make([]int, long)
					for i := range l {
						l[i] = row % 3
						row /= 3
					}
					mustFollow(t, api.Health{Fail: fail, Rise: rise, Hold: hold}, l)
				}
			}
		}
	}
}

// P17.3: the model is what Fold says, at random rows in which one kind or another is the more frequent by turns.
func TestRandom(t *testing.T) {
	r := rand.New(rand.NewSource(17))
	for range 400 {
		h := api.Health{Fail: 1 + r.Intn(6), Rise: 1 + r.Intn(6), Hold: r.Intn(12)}
		var l []int
		for len(l) < 120 {
			often := r.Intn(3)
			for range 1 + r.Intn(30) {
				kind := r.Intn(3)
				if r.Intn(4) > 0 {
					kind = often
				}
				l = append(l, kind)
			}
		}
		mustFollow(t, h, l)
	}
}

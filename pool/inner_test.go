package pool

import (
	"testing"

	"aqueduct/api"
)

// P19.2, P19.4: the longest waits, whose ends no test can come to tick by tick.
func TestLongest(t *testing.T) {
	for _, c := range []struct{ retry, most, then int }{
		{api.MaxTick, api.MaxTick, api.MaxTick}, {api.MaxTick - 1, api.MaxTick, api.MaxTick},
		{api.MaxTick/2 + 1, api.MaxTick, api.MaxTick}, {api.MaxTick / 2, api.MaxTick, api.MaxTick},
		{api.MaxTick/2 - 1, api.MaxTick, api.MaxTick - 2}, {api.MaxTick / 2, api.MaxTick - 1, api.MaxTick - 1},
	} {
		p, e := New(1, api.Health{Fail: 1, Rise: 1}, c.retry, c.most)
		if e != api.OK {
			t.Fatalf("New: %d", e)
		}
		p.Tick()
		p.Failed(0)
		if left, e := p.timers.Left(0); left != c.retry || e != api.OK || p.Wait(0) != c.then {
			t.Fatalf("%v: due in %d, %d; the next wait is %d", c, left, e, p.Wait(0))
		}
		p.backs[0].state = dialled
		p.Failed(0)
		if left, e := p.timers.Left(0); left != c.then || e != api.OK || p.Wait(0) != min(c.most, 2*c.then) {
			t.Fatalf("%v: due in %d, %d; the next wait is %d", c, left, e, p.Wait(0))
		}
	}
}

// P19.1: a backend has a timer if it is down, and only then.
func TestTimers(t *testing.T) {
	p, e := New(1, api.Health{Fail: 1, Rise: 1}, 2, 2)
	if e != api.OK {
		t.Fatalf("New: %d", e)
	}
	must := func(what string, left int) {
		t.Helper()
		if got, _ := p.timers.Left(0); got != left || p.timers.Len() != min(left, 1) {
			t.Fatalf("%s: due in %d, want %d; %d timers", what, got, left, p.timers.Len())
		}
	}
	must("New", 1)
	p.Tick()
	must("Tick", 0)
	p.Failed(0)
	must("Failed", 2)
	p.Tick()
	p.Failed(0)
	must("Failed, of one that is down", 1)
	p.Tick()
	p.Opened(0)
	p.Limit(0, 1)
	p.Take(0)
	p.Drain(0)
	must("Drain", 0)
	p.Put(0)
	must("Put", 1)
}

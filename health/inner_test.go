package health

import (
	"testing"

	"aqueduct/api"
)

// P17.1: the end of the longest hold, which no test can come to tick by tick.
func TestLongest(t *testing.T) {
	m, e := New(api.Health{Fail: 1, Rise: 1, Hold: api.MaxTick})
	if e != api.OK {
		t.Fatalf("New: %d", e)
	}
	m.Probe(false)
	m.hold -= api.MaxTick - 1
	m.Probe(true)
	if m.Up() || m.Run() != 1 || m.Hold() != 1 {
		t.Fatalf("a tick ahead: %v, %d, %d", m.Up(), m.Run(), m.Hold())
	}
	m.Tick()
	m.Probe(true)
	if !m.Up() || m.Run() != 0 || m.Hold() != 0 {
		t.Fatalf("at its end: %v, %d, %d", m.Up(), m.Run(), m.Hold())
	}
}

package stream

import (
	"testing"

	"aqueduct/api"
)

// P10.2: the end of this end's numbers, which no test can come to call by call.
func TestOwnEnd(t *testing.T) {
	for _, server := range []bool{false, true} {
		s, _ := New(server, 1)
		top := api.MaxID
		if server {
			top--
		}
		s.own.last = top - 2
		if id, e := s.Own(); id != top || e != api.OK {
			t.Fatalf("Own() = %d, %d, want %d", id, e, top)
		}
		if id, e := s.Own(); id != 0 || e != api.ErrLong {
			t.Fatalf("Own() = %d, %d, want 0, ErrLong", id, e)
		}
		if n := s.Open(true); n != 1 || s.State(top) != api.SIdle || s.State(top-2) != api.SClosed {
			t.Fatalf("Open(true) = %d, State(%d) = %d", n, top, s.State(top))
		}
		s.Limit(1)
		if id, e := s.Own(); id != 0 || e != api.ErrFull {
			t.Fatalf("Own() = %d, %d, want 0, ErrFull, ahead of ErrLong", id, e)
		}
	}
}

package proxy

import (
	"testing"

	"aqueduct/api"
	"aqueduct/conn"
)

// Behind its last event nothing is kept of a pair, nor of a connection, wherever it lay.
func TestNothingIsKept(t *testing.T) {
	p, e := New(api.Config{Backs: 1, Conns: 1, Streams: 5, Buffer: 100, Queue: 100, Health: api.Health{Fail: 1, Rise: 1}, Retry: 1, Most: 1, List: 4000})
	if e != api.OK {
		t.Fatalf("New = %d", e)
	}
	client, _ := conn.New(api.Setup{Frame: api.MinFrame, List: 4000})
	server, _ := conn.New(api.Setup{Server: true, Streams: 5, Frame: api.MinFrame, List: 4000})
	turn := func() {
		for n, c := range []*conn.Conn{client, server} {
			p.Do(api.In{What: api.InBytes, A: n, Bytes: c.Out(1 << 20)})
			for _, o := range p.Do(api.In{What: api.InBudget, A: n, B: 1 << 20}) {
				c.In(o.Bytes)
			}
		}
	}
	p.Do(api.In{What: api.InTick})
	p.Do(api.In{What: api.InOpen})
	p.Do(api.In{What: api.InBack, B: 1})
	turn()
	turn()
	for range 20 {
		client.Open([]api.Header{{Name: ":method", Value: "GET"}, {Name: ":scheme", Value: "https"}, {Name: ":path", Value: "/"}}, true)
		turn()
		if len(p.pairs) != 1 || len(p.backend(0).pairs) != 1 {
			t.Fatalf("%d pairs, %d of the backend", len(p.pairs), len(p.backend(0).pairs))
		}
		server.Headers(server.Streams()[0], []api.Header{{Name: ":status", Value: "204"}}, true)
		turn()
		turn()
		if len(p.pairs) != 0 || len(p.backend(0).pairs) != 0 {
			t.Fatalf("%d pairs, %d of the backend", len(p.pairs), len(p.backend(0).pairs))
		}
	}
	p.Do(api.In{What: api.InClose})
	p.Do(api.In{What: api.InClose, A: 1})
	if p.find(0) != nil || p.find(1) != nil || len(p.links) != 2 {
		t.Errorf("links: %v", p.links)
	}
}

package proxy

import (
	"cmp"
	"maps"
	"slices"

	"aqueduct/api"
	"aqueduct/pick"
	"aqueduct/relay"
	"aqueduct/rewrite"
)

// name is the proxy's, as via tells it.
const name = "aqueduct"

// Statuses of requests that are refused.
const (
	statusRequest = 400 // it can't be passed on
	statusNone    = 503 // there is no backend for it
)

// key tells pairs apart by their fronts.
type key struct {
	client int
	stream int
}

// pair is a pair, and whose it is at the back.
type pair struct {
	*relay.Pair
	back   *backend
	counts bool // it is a load of the backend
}

// admit takes a new request: it goes to a backend, or is refused.
func (p *Proxy) admit(c *client, head api.Event, draw int) {
	n, e := pick.Choose(p.choices(), draw)
	if e != api.OK {
		c.refuse(head.Stream, statusNone)
		return
	}
	l, e := rewrite.Request(head.List, name)
	if e != api.OK {
		c.refuse(head.Stream, statusRequest)
		return
	}
	b := p.backend(n) // the pool chooses none that is not there
	stream, e := b.Open(l, head.End)
	if e != api.OK {
		c.refuse(head.Stream, statusNone)
		return
	}
	p.pool.Take(n)
	x, _ := relay.New(c.Conn, head.Stream, b.Conn, stream, max(p.config.Buffer, api.Window)) // both are open
	b.pairs[stream] = &pair{Pair: x, back: b, counts: true}
	p.pairs[key{c.number, head.Stream}] = b.pairs[stream]
}

// choices answers what a choice sees of the backends: their connections may have less room than the pool knows.
func (p *Proxy) choices() []api.Back {
	l := p.pool.Backs()
	for n := range l {
		if b := p.backend(n); b != nil {
			l[n].Slots = min(l[n].Slots, b.Slots())
		}
	}
	return l
}

// lose lets the pairs of a connection be without it.
func (p *Proxy) lose(l link) {
	for _, k := range p.keys() {
		if x := p.pairs[k]; l.owns(k, x) {
			l.lose(x)
		}
	}
}

// settle hands on what can be handed on, and lets pairs go that are over.
func (p *Proxy) settle() {
	keys := p.keys()
	for _, k := range keys {
		p.pairs[k].Move()
	}
	for _, k := range keys {
		if p.pairs[k].Over() {
			p.drop(k)
		}
	}
}

// drop lets a pair go.
func (p *Proxy) drop(k key) {
	x := p.pairs[k]
	_, stream := x.Streams()
	delete(p.pairs, k)
	delete(x.back.pairs, stream)
	if x.counts {
		p.pool.Put(x.back.number)
	}
}

// keys answers those of all pairs, rising.
func (p *Proxy) keys() []key {
	return slices.SortedFunc(maps.Keys(p.pairs), func(x, y key) int {
		return cmp.Or(cmp.Compare(x.client, y.client), cmp.Compare(x.stream, y.stream))
	})
}

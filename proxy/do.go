package proxy

import "aqueduct/api"

// notFailed is what a connection that has not failed tells in a code's place.
const notFailed = -1

// yes is what an event tells of what went well.
const yes = 1

// doers answers what is done at each kind of event.
func doers() map[int]func(*Proxy, api.In) []api.Out {
	return map[int]func(*Proxy, api.In) []api.Out{
		api.InOpen:   (*Proxy).doOpen,
		api.InBytes:  (*Proxy).doBytes,
		api.InClose:  (*Proxy).doClose,
		api.InBudget: (*Proxy).doBudget,
		api.InTick:   (*Proxy).doTick,
		api.InProbe:  (*Proxy).doProbe,
		api.InBack:   (*Proxy).doBack,
		api.InStop:   (*Proxy).doStop,
	}
}

// doOpen takes a client's connection. A backend's opens by doBack alone.
func (p *Proxy) doOpen(e api.In) []api.Out {
	switch {
	case e.A < 0 || p.Open(e.A):
		return nil
	case e.A >= len(p.links), e.A < p.config.Conns && p.stopping:
		return []api.Out{{What: api.OutClose, A: e.A}}
	case e.A < p.config.Conns:
		p.links[e.A] = p.newClient(e.A)
	}
	return nil
}

func (p *Proxy) doBytes(e api.In) []api.Out {
	if l := p.find(e.A); l != nil {
		told, _ := l.In(e.Bytes)
		for _, event := range told {
			l.hear(p, event, e.Draw)
		}
	}
	return nil
}

func (p *Proxy) doClose(e api.In) []api.Out {
	if p.Open(e.A) {
		p.leave(e.A)
	}
	return nil
}

// doBudget writes. A connection that has failed stays till its peer can be told of it.
func (p *Proxy) doBudget(e api.In) []api.Out {
	l := p.find(e.A)
	if l == nil {
		return nil
	}
	var out []api.Out
	if b := l.Out(e.B); len(b) > 0 {
		out = append(out, api.Out{What: api.OutBytes, A: e.A, Bytes: b})
	}
	if l.Failed() != notFailed && l.Waiting() == 0 {
		p.leave(e.A)
		out = append(out, api.Out{What: api.OutClose, A: e.A})
	}
	return out
}

func (p *Proxy) doTick(api.In) []api.Out {
	var out []api.Out
	for _, n := range p.pool.Tick() {
		out = append(out, api.Out{What: api.OutDial, A: n})
	}
	return out
}

func (p *Proxy) doProbe(e api.In) []api.Out {
	p.pool.Probe(e.A, e.B == yes)
	return nil
}

// doBack takes how the dialling of a backend went. One that was not dialled is left as it is.
func (p *Proxy) doBack(e api.In) []api.Out {
	if p.pool.State(e.A) != dialled {
		return nil
	}
	if e.B != yes {
		p.pool.Failed(e.A)
		return nil
	}
	p.pool.Opened(e.A)
	p.links[p.config.Conns+e.A] = p.newBackend(e.A)
	return nil
}

func (p *Proxy) doStop(api.In) []api.Out {
	p.stopping = true
	for _, l := range p.links {
		if c, ok := l.(*client); ok {
			c.Goaway(api.CNone)
		}
	}
	return nil
}

// leave lets a connection be gone.
func (p *Proxy) leave(n int) {
	l := p.links[n]
	p.lose(l)
	p.links[n] = nil
	if b, ok := l.(*backend); ok {
		p.pool.Failed(b.number)
	}
}

// closeDrained closes the connections of backends that have drained. One that has failed has its fault to tell still, and is closed behind that.
func (p *Proxy) closeDrained() []api.Out {
	var out []api.Out
	for n, l := range p.links {
		b, ok := l.(*backend)
		if ok && p.pool.State(b.number) == down && b.Failed() == notFailed {
			p.links[n] = nil
			out = append(out, api.Out{What: api.OutClose, A: n})
		}
	}
	return out
}

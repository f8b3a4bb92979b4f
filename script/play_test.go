package script_test

import (
	"fmt"
	"math/rand"
	"slices"
	"strings"
	"testing"

	"aqueduct/api"
	"aqueduct/conn"
	"aqueduct/proxy"
	"aqueduct/script"
)

// config is that of one backend and one client.
func config() api.Config {
	return api.Config{Backs: 1, Conns: 1, Streams: 2, Buffer: 500, Queue: 300, Health: api.Health{Fail: 2, Rise: 1}, Retry: 1, Most: 8, List: 4000}
}

// mustPlay plays a script twice: it has one answer (P23.3).
func mustPlay(t *testing.T, c api.Config, s, want string) {
	t.Helper()
	for range 2 {
		if got, e := script.Play(c, s); got != want || e != api.OK {
			t.Fatalf("Play(%v, %.300q) = %.300q, %d, want %.300q", c, s, got, e, want)
		}
	}
}

// What is written first, and what a client and a backend write themselves.
const (
	preface      = "505249202a20485454502f322e300d0a0d0a534d0d0a0d0a"
	toBackend    = preface + "00001e0400000000000001000010000002000000000004000001f4000500004000000600000fa0"
	toClient     = "0000240400000000000001000010000003000000020004000001f4000500004000000600000fa0000800000001"
	settings     = "000000040000000000"
	settingsSeen = "000000040100000000"
	goawayFault  = "0000080700000000000000000000000001" // CProtocol
	goaway       = "0000080700000000000000000000000000"
	post         = "000003010400000001838487" // :method POST, :path /, :scheme https of stream 1: it goes on
)

// P23.2: of an empty text, and of remarks, there are the pairs alone.
func TestPlayNothing(t *testing.T) {
	for _, s := range []string{"", "\n", "\n\n", "# a remark", "#\n#tick\n"} {
		mustPlay(t, config(), s, "pairs 0\n")
	}
}

// P23.2: what a proxy does at each kind of event.
func TestPlayEvents(t *testing.T) {
	for _, c := range []struct {
		lines, want []string
	}{
		{[]string{"tick"}, []string{"dial 0"}},
		{[]string{"tick", "tick"}, []string{"dial 0"}},
		{[]string{"# a remark", "", "tick", "open 0", "open 5"}, []string{"dial 0", "close 5"}},
		{[]string{"tick 1 2 3 =00"}, []string{"dial 0"}},
		{[]string{"open 0", "open 0", "open 1", "open 2", "open 999999999"}, []string{"close 2", "close 999999999"}},
		{[]string{"stop", "open 0", "open 1", "open 2"}, []string{"close 0", "close 2"}},
		{[]string{"open", "budget 0 999999999"}, []string{"bytes 0 =" + toClient}},
		{[]string{"open 0", "budget 0", "budget 0 1", "budget 0 2", "budget 0 1000", "budget 0 1000"}, []string{"bytes 0 =00", "bytes 0 =0024", "bytes 0 =" + toClient[6:]}},
		{[]string{"open 0", "close", "budget 0 1000", "open 0", "budget 0 1000"}, []string{"bytes 0 =" + toClient}},
		{[]string{"back 0 1", "budget 1 1000"}, nil},
		{[]string{"tick", "back 0 1", "budget 1 1000"}, []string{"dial 0", "bytes 1 =" + toBackend}},
		{[]string{"tick", "back 0", "tick", "tick", "back 0 1", "budget 1 9"}, []string{"dial 0", "dial 0", "bytes 1 =" + preface[:18]}},
		{[]string{"tick", "back 0 0", "tick", "back 0 0", "tick", "tick"}, []string{"dial 0", "dial 0", "dial 0"}},
		{[]string{"open 0", "bytes 0 =474554", "budget 0 1000", "open 0"}, []string{"bytes 0 =" + toClient + goawayFault, "close 0"}},
		{[]string{"open 0", "bytes 0", "bytes 0 =", "bytes 0 =" + preface + settings, "budget 0 1000"}, []string{"bytes 0 =" + toClient + settingsSeen}},
		{[]string{"open 0", "bytes 0 =" + preface + settings + settingsSeen, "stop", "budget 0 1000"}, []string{"bytes 0 =" + toClient + settingsSeen + goaway}},
		{[]string{"bytes 7 =00", "budget 7 1", "close 7", "probe 7 1", "back 7 1", "bytes 1 =00", "close 1"}, nil},
	} {
		want := strings.Join(append(c.want, "pairs 0", ""), "\n")
		s := strings.Join(c.lines, "\n")
		mustPlay(t, config(), s, want)
		mustPlay(t, config(), s+"\n", want)
	}
}

// P23.2: bytes and draws reach the proxy: requests are pairs, and go to the backend that the draw tells; a probe brings one down.
func TestPlayRequests(t *testing.T) {
	c := config()
	c.Backs, c.Conns, c.Health.Fail = 2, 2, 1
	begin := "tick\nback 0 1\nback 1 1\nbudget 2 1000\nbudget 3 1000\n" +
		"bytes 2 =" + settings + settingsSeen + "\nbytes 3 =" + settings + settingsSeen + "\nbudget 2 1000\nbudget 3 1000\n" +
		"open 0\nopen 1\nbudget 0 1000\nbudget 1 1000\nbytes 0 =" + preface + settings + settingsSeen + "\n"
	first := "dial 0\ndial 1\nbytes 2 =" + toBackend + "\nbytes 3 =" + toBackend + "\nbytes 2 =" + settingsSeen + "\nbytes 3 =" + settingsSeen + "\nbytes 0 =" + toClient + "\nbytes 1 =" + toClient + "\n"
	mustPlay(t, c, begin, first+"pairs 0\n")
	for draw := range 5 {
		s := begin + fmt.Sprintf("bytes 0 0 %d =%s", draw, post)
		mustPlay(t, c, s, first+"pairs 1\n")
		mustPlay(t, c, s+"\nclose 0", first+"pairs 0\n")
		for n := range 2 {
			told := ""
			if n == draw%2 {
				told = fmt.Sprintf("bytes %d =0000\n", 2+n) // HEADERS begin
			}
			mustPlay(t, c, s+fmt.Sprintf("\nbudget %d 2", 2+n), first+told+"pairs 1\n")
		}
		got, e := script.Play(c, begin+"probe 1\n"+fmt.Sprintf("bytes 0 0 %d =%s", draw, post)+"\nbudget 2 4")
		if e != api.OK || !strings.HasPrefix(got, first+"bytes 2 =0000") || !strings.HasSuffix(got, "01\npairs 1\n") {
			t.Fatalf("draw %d: %q, %d", draw, got, e)
		}
	}
	mustPlay(t, c, begin+"probe 0\nprobe 1\nbytes 0 =000003010500000001828487", first+"pairs 0\n")
	both := begin + "bytes 0 =" + post + strings.Replace(post, "01838487", "03838487", 1)
	mustPlay(t, c, both, first+"pairs 2\n")
	mustPlay(t, c, both+"\nclose 2", first+"pairs 1\n")
}

// P23.2: Parse's error is ahead of proxy.New's, which is ahead of the events.
func TestPlayErrors(t *testing.T) {
	for _, change := range []func(*api.Config){
		func(c *api.Config) { *c = api.Config{} },
		func(c *api.Config) { c.Backs = -1 },
		func(c *api.Config) { c.Backs = api.MaxBacks + 1 },
		func(c *api.Config) { c.Conns = 0 },
		func(c *api.Config) { c.Conns = 65 },
		func(c *api.Config) { c.Streams = 101 },
		func(c *api.Config) { c.Buffer = api.MaxPump },
		func(c *api.Config) { c.Queue = 0 },
		func(c *api.Config) { c.Health.Fail = 0 },
		func(c *api.Config) { c.Retry = 0 },
		func(c *api.Config) { c.List = -1 },
	} {
		c := config()
		change(&c)
		for _, s := range []string{"", "tick", "# a remark\n\nopen 0"} {
			for range 2 {
				if got, e := script.Play(c, s); got != "" || e != api.ErrArg {
					t.Fatalf("Play(%v, %q) = %q, %d", c, s, got, e)
				}
			}
		}
		for s, want := range map[string]api.Errno{"tock": api.ErrForm, "tick\ntick 01": api.ErrForm, strings.Repeat("\n", api.MaxScript+1): api.ErrLong, strings.Repeat("tick\n", api.MaxEvents+1): api.ErrLong} {
			if got, e := script.Play(c, s); got != "" || e != want {
				t.Fatalf("Play(%v, %.30q) = %q, %d, want %d", c, s, got, e, want)
			}
		}
	}
	c := config()
	c.Backs = 0
	mustPlay(t, c, "tick", "pairs 0\n")
	c.Backs = api.MaxBacks
	want := ""
	for n := range api.MaxBacks {
		want += fmt.Sprintf("dial %d\n", n)
	}
	mustPlay(t, c, "tick", want+"pairs 0\n")
}

// P23.2: MaxEvents events are all done.
func TestPlayLong(t *testing.T) {
	s := strings.Repeat("stop\n", api.MaxEvents-1)
	mustPlay(t, config(), s+"tick\n", "dial 0\npairs 0\n")
	mustPlay(t, config(), "tick\n"+s, "dial 0\npairs 0\n")
	mustPlay(t, config(), "open 9\n"+strings.Repeat("open 9\n", api.MaxEvents-1), strings.Repeat("close 9\n", api.MaxEvents)+"pairs 0\n")
}

// recorder is a proxy whose events, and what it does at them, are written down.
type recorder struct {
	p     *proxy.Proxy
	c     api.Config
	lines strings.Builder
	told  strings.Builder
	peers map[int]*conn.Conn
	heard map[int][]api.Event
}

func newRecorder(t *testing.T, c api.Config) *recorder {
	t.Helper()
	p, e := proxy.New(c)
	if e != api.OK {
		t.Fatalf("New = %d", e)
	}
	return &recorder{p: p, c: c, peers: map[int]*conn.Conn{}, heard: map[int][]api.Event{}}
}

// do lets the proxy take an event. Its peers are told what it writes.
func (r *recorder) do(e api.In) {
	fmt.Fprintf(&r.lines, "%s %d %d %d", names[e.What], e.A, e.B, e.Draw)
	if len(e.Bytes) > 0 {
		fmt.Fprintf(&r.lines, " =%x", e.Bytes)
	}
	fmt.Fprintf(&r.lines, "\n")
	for _, o := range r.p.Do(e) {
		switch o.What {
		case api.OutBytes:
			fmt.Fprintf(&r.told, "bytes %d =%x\n", o.A, o.Bytes)
			l, _ := r.peers[o.A].In(o.Bytes)
			r.heard[o.A] = append(r.heard[o.A], l...)
		case api.OutClose:
			fmt.Fprintf(&r.told, "close %d\n", o.A)
		case api.OutDial:
			fmt.Fprintf(&r.told, "dial %d\n", o.A)
		}
	}
}

// meets lets a new end be there for a connection.
func (r *recorder) meets(n int) {
	r.peers[n], _ = conn.New(api.Setup{Server: n >= r.c.Conns, Streams: 9, Window: 1000, Frame: api.MinFrame, List: api.MaxInt, Table: 4096, Queue: 5000})
}

// talks lets bytes go both ways of all connections.
func (r *recorder) talks(src *rand.Rand) {
	for n := range r.c.Conns + r.c.Backs {
		if r.peers[n] == nil {
			continue
		}
		if b := r.peers[n].Out(1 + src.Intn(2000)); len(b) > 0 {
			r.do(api.In{What: api.InBytes, A: n, Draw: src.Intn(100), Bytes: b})
		}
		r.do(api.In{What: api.InBudget, A: n, B: src.Intn(2000)})
	}
}

func (r *recorder) begins(src *rand.Rand) {
	r.do(api.In{What: api.InTick})
	for n := range r.c.Conns {
		r.do(api.In{What: api.InOpen, A: n})
		r.meets(n)
	}
	for n := range r.c.Backs {
		r.do(api.In{What: api.InBack, A: n, B: 1})
		r.meets(r.c.Conns + n)
	}
	for range 5 {
		r.talks(src)
	}
}

// plays asks Play for the same.
func (r *recorder) plays(t *testing.T) {
	t.Helper()
	mustPlay(t, r.c, r.lines.String(), r.told.String()+fmt.Sprintf("pairs %d\n", r.p.Pairs()))
}

func list(texts ...string) []api.Header {
	var l []api.Header
	for i := 0; i < len(texts); i += 2 {
		l = append(l, api.Header{Name: texts[i], Value: texts[i+1]})
	}
	return l
}

// answers lets backends answer each request by what its path is.
func (r *recorder) answers() {
	for n := r.c.Conns; n < r.c.Conns+r.c.Backs; n++ {
		for _, e := range r.heard[n] {
			if e.Kind == api.EvHeaders {
				r.peers[n].Headers(e.Stream, list(":status", "200", "server", "s"), false)
				r.peers[n].Data(e.Stream, []byte(e.List[2].Value), true)
			}
		}
		r.heard[n] = nil
	}
}

// P23.2, P23.3: an exchange through the whole proxy is told by a script as it is by the proxy itself.
func TestPlayThrough(t *testing.T) {
	for seed := range int64(30) {
		src := rand.New(rand.NewSource(seed))
		c := config()
		c.Backs, c.Conns = 1+src.Intn(3), 1+src.Intn(3)
		r := newRecorder(t, c)
		r.begins(src)
		var asked []string
		for turn := range 40 {
			if n := src.Intn(c.Conns); turn < 20 && r.peers[n].Slots() > 0 {
				path := fmt.Sprintf("/%d-%s", turn, strings.Repeat("x", src.Intn(200)))
				if _, e := r.peers[n].Open(list(":method", "GET", ":scheme", "https", ":path", path), true); e == api.OK {
					asked = append(asked, path)
				}
			}
			r.talks(src)
			r.answers()
		}
		var came []string
		for n := range c.Conns {
			bodies := map[int]string{}
			for _, e := range r.heard[n] {
				if bodies[e.Stream] += string(e.Bytes); e.End {
					came = append(came, bodies[e.Stream])
				}
			}
		}
		slices.Sort(asked)
		slices.Sort(came)
		if !slices.Equal(came, asked) || len(asked) < 5 || r.p.Pairs() != 0 {
			t.Fatalf("seed %d: %q were asked for, %q came, %d pairs", seed, asked, came, r.p.Pairs())
		}
		r.plays(t)
	}
}

// P1, P23.2: any events, also those that make no sense, as the proxy itself does them.
func TestPlayRandom(t *testing.T) {
	for seed := range int64(200) {
		src := rand.New(rand.NewSource(seed))
		c := config()
		c.Backs, c.Conns, c.Retry = src.Intn(4), 1+src.Intn(3), 1+src.Intn(2)
		r := newRecorder(t, c)
		for n := range c.Conns + c.Backs + 1 {
			r.meets(n)
		}
		for range 100 {
			n := src.Intn(c.Conns + c.Backs + 1)
			e := api.In{What: src.Intn(8), A: n, B: src.Intn(3), Draw: src.Intn(9)}
			if e.What == api.InStop && src.Intn(4) > 0 {
				e.What = api.InOpen
			}
			switch e.What {
			case api.InBack:
				e.A = src.Intn(c.Backs + 1)
			case api.InBudget:
				e.B = src.Intn(300)
			case api.InBytes:
				r.peers[n].Open(list(":method", "POST", ":scheme", "https", ":path", "/"), src.Intn(2) == 0)
				if e.Bytes = r.peers[n].Out(1 + src.Intn(300)); src.Intn(30) == 0 {
					src.Read(e.Bytes)
				}
			}
			if src.Intn(50) == 0 {
				e.A, e.B = src.Intn(numberMost+1), src.Intn(numberMost+1)
			}
			r.do(e)
		}
		r.plays(t)
	}
}

package wheel_test

import (
	"math"
	"math/rand"
	"slices"
	"testing"

	"aqueduct/api"
	"aqueduct/wheel"
)

// below are numbers below 0.
func below() []int {
	return []int{-1, -2, -64, -api.MaxTick, -1 << 32, math.MinInt + 1, math.MinInt}
}

// wrongAfter are numbers of ticks that no timer takes.
func wrongAfter() []int {
	return append(below(), 0, api.MaxTick+1, api.MaxTick+2, 1<<31, 1<<32, 1<<32+1, math.MaxInt-1, math.MaxInt)
}

func newWheel(t *testing.T) *wheel.Wheel {
	t.Helper()
	w := wheel.New()
	if w == nil {
		t.Fatal("New() = nil")
	}
	mustBe(t, w, 0, 0)
	return w
}

// full answers a wheel with the timers 0 to api.MaxTimers - 1, timer n due in n + 1 ticks.
func full(t *testing.T) *wheel.Wheel {
	t.Helper()
	w := newWheel(t)
	for id := range api.MaxTimers {
		mustSet(t, w, id, id+1)
	}
	mustBe(t, w, 0, api.MaxTimers)
	return w
}

func mustBe(t *testing.T, w *wheel.Wheel, now, timers int) {
	t.Helper()
	if w.Now() != now || w.Len() != timers {
		t.Fatalf("Now(), Len() = %d, %d, want %d, %d", w.Now(), w.Len(), now, timers)
	}
}

func mustSet(t *testing.T, w *wheel.Wheel, id, after int) {
	t.Helper()
	if e := w.Set(id, after); e != api.OK {
		t.Fatalf("Set(%d, %d) = %d", id, after, e)
	}
	mustLeft(t, w, id, after)
}

func mustNotSet(t *testing.T, w *wheel.Wheel, id, after int, want api.Errno) {
	t.Helper()
	if e := w.Set(id, after); e != want {
		t.Fatalf("Set(%d, %d) = %d, want %d", id, after, e, want)
	}
}

func mustCancel(t *testing.T, w *wheel.Wheel, id int, want api.Errno) {
	t.Helper()
	if e := w.Cancel(id); e != want {
		t.Fatalf("Cancel(%d) = %d, want %d", id, e, want)
	}
}

func mustLeft(t *testing.T, w *wheel.Wheel, id, want int) {
	t.Helper()
	for range 2 {
		if n, e := w.Left(id); n != want || e != api.OK {
			t.Fatalf("Left(%d) = %d, %d, want %d", id, n, e, want)
		}
	}
}

func mustNotLeft(t *testing.T, w *wheel.Wheel, id int, want api.Errno) {
	t.Helper()
	if n, e := w.Left(id); n != 0 || e != want {
		t.Fatalf("Left(%d) = %d, %d, want 0, %d", id, n, e, want)
	}
}

func mustTick(t *testing.T, w *wheel.Wheel, want ...int) {
	t.Helper()
	now, timers := w.Now(), w.Len()
	if l := w.Tick(); !slices.Equal(l, want) {
		t.Fatalf("Tick() behind %d ticks = %v, want %v", now, l, want)
	}
	mustBe(t, w, now+1, timers-len(want))
	for _, id := range want {
		mustNotLeft(t, w, id, api.ErrNone)
	}
}

// mustTicks ticks n times, by which no timer is due.
func mustTicks(t *testing.T, w *wheel.Wheel, n int) {
	t.Helper()
	for range n {
		mustTick(t, w)
	}
}

// P16.1: the chapter's example.
func TestExample(t *testing.T) {
	w := newWheel(t)
	mustSet(t, w, 5, 2)
	mustSet(t, w, 3, 2)
	mustSet(t, w, 9, 1)
	mustTick(t, w, 9)
	mustTick(t, w, 5, 3)
	mustTick(t, w)
	mustBe(t, w, 3, 0)
}

// P16.1: what Set refuses, ahead of anything being changed.
func TestSetWrong(t *testing.T) {
	w := newWheel(t)
	mustSet(t, w, 4, 1)
	mustSet(t, w, 5, 1)
	for _, after := range wrongAfter() {
		mustNotSet(t, w, 4, after, api.ErrArg)
		mustNotSet(t, w, 6, after, api.ErrArg)
		mustNotSet(t, w, -1, after, api.ErrArg)
		mustNotLeft(t, w, 6, api.ErrNone)
	}
	for _, id := range below() {
		for _, after := range []int{1, 2, api.MaxTick} {
			mustNotSet(t, w, id, after, api.ErrArg)
			mustNotLeft(t, w, id, api.ErrNone)
		}
	}
	mustLeft(t, w, 4, 1)
	mustBe(t, w, 0, 2)
	mustTick(t, w, 4, 5)
}

// P16.1: the numbers at the ends of what Set takes.
func TestSetEnds(t *testing.T) {
	w := newWheel(t)
	for _, id := range []int{0, 1, 63, 64, api.MaxTimers, api.MaxTick, 1 << 32, math.MaxInt - 1, math.MaxInt} {
		for _, after := range []int{1, 2, 63, 64, 65, api.MaxTick - 1, api.MaxTick} {
			mustSet(t, w, id, after)
		}
		mustSet(t, w, id, 1)
		mustTick(t, w, id)
	}
}

// P16.1: there are at most api.MaxTimers; one of them may be set anew all the same.
func TestFull(t *testing.T) {
	w := full(t)
	mustNotSet(t, w, api.MaxTimers, 1, api.ErrFull)
	mustNotSet(t, w, math.MaxInt, api.MaxTick, api.ErrFull)
	mustNotSet(t, w, api.MaxTimers, 0, api.ErrArg)
	mustNotSet(t, w, -1, 1, api.ErrArg)
	mustNotLeft(t, w, api.MaxTimers, api.ErrNone)
	mustSet(t, w, 7, 1)
	mustSet(t, w, 7, api.MaxTick)
	mustBe(t, w, 0, api.MaxTimers)
	mustTick(t, w, 0)
	mustSet(t, w, api.MaxTimers, 5)
	mustNotSet(t, w, 0, 1, api.ErrFull)
	mustCancel(t, w, 9, api.OK)
	mustSet(t, w, 0, 1)
	mustNotSet(t, w, 9, 1, api.ErrFull)
	mustTick(t, w, 1, 0)
	mustTick(t, w, 2)
	mustTick(t, w, 3)
	mustTick(t, w, 4)
	mustTick(t, w, 5, api.MaxTimers)
}

// P16.1: all timers may be due at one tick: they are told as they were set.
func TestFullAtOnce(t *testing.T) {
	for _, after := range []int{1, 64, 65, 200} {
		w := newWheel(t)
		order := rand.New(rand.NewSource(int64(after))).Perm(api.MaxTimers)
		for _, id := range order {
			mustSet(t, w, id, after)
		}
		mustNotSet(t, w, api.MaxTimers, after, api.ErrFull)
		mustTicks(t, w, after-1)
		mustTick(t, w, order...)
		mustBe(t, w, after, 0)
		mustTicks(t, w, 130)
	}
}

// P16.1: one that is set anew is due when it was last asked, and stands behind those that were set ahead of that.
func TestSetAnew(t *testing.T) {
	for _, first := range []int{1, 2, 3, 63, 64, 65, 66, 67, 128, 131, api.MaxTick} {
		w := newWheel(t)
		mustSet(t, w, 1, first)
		mustSet(t, w, 2, 3)
		mustSet(t, w, 1, 3)
		mustSet(t, w, 4, 3)
		mustBe(t, w, 0, 3)
		mustTicks(t, w, 2)
		mustTick(t, w, 2, 1, 4)
		mustTicks(t, w, 140)
	}
	w := newWheel(t)
	mustSet(t, w, 1, 5)
	mustSet(t, w, 2, 5)
	mustTicks(t, w, 4)
	mustSet(t, w, 1, 1)
	mustTick(t, w, 2, 1)
	mustSet(t, w, 1, 2)
	mustTick(t, w)
	mustSet(t, w, 1, 2)
	mustTick(t, w)
	mustTick(t, w, 1)
}

// P16.1: those that were set earlier are told first, though they were asked for later.
func TestOrder(t *testing.T) {
	for _, most := range []int{4, 64, 65, 129, 300} {
		w := newWheel(t)
		mustTicks(t, w, 7)
		var want []int
		for n := range most {
			id := (n*37 + 11) % 1000
			want = append(want, id)
			mustSet(t, w, id, most-n)
			mustTickUnless(t, w, n == most-1)
		}
		mustTick(t, w, want...)
	}
}

func mustTickUnless(t *testing.T, w *wheel.Wheel, not bool) {
	t.Helper()
	if !not {
		mustTick(t, w)
	}
}

// P16.1: Cancel, of what is there and of what is not.
func TestCancel(t *testing.T) {
	w := newWheel(t)
	for _, id := range append(below(), 0, 1, math.MaxInt) {
		mustCancel(t, w, id, api.ErrNone)
	}
	for id := range 5 {
		mustSet(t, w, id, 2)
	}
	mustSet(t, w, 66, 66)
	mustCancel(t, w, 2, api.OK)
	mustNotLeft(t, w, 2, api.ErrNone)
	mustBe(t, w, 0, 5)
	mustCancel(t, w, 2, api.ErrNone)
	mustCancel(t, w, 5, api.ErrNone)
	mustBe(t, w, 0, 5)
	mustCancel(t, w, 4, api.OK)
	mustTick(t, w)
	mustCancel(t, w, 0, api.OK)
	mustSet(t, w, 0, 1)
	mustTick(t, w, 1, 3, 0)
	mustCancel(t, w, 1, api.ErrNone)
	mustTicks(t, w, 63)
	mustTick(t, w, 66)
	mustCancel(t, w, 66, api.ErrNone)
	mustBe(t, w, 66, 0)
}

// P16.2: a timer that was cancelled and set again is told by the later tick alone.
func TestCancelAndSet(t *testing.T) {
	for _, after := range []int{1, 2, 63, 64, 65, 127, 128, 129} {
		w := newWheel(t)
		mustSet(t, w, 8, 64)
		mustSet(t, w, 7, after)
		mustCancel(t, w, 8, api.OK)
		mustCancel(t, w, 7, api.OK)
		mustTicks(t, w, 3)
		mustSet(t, w, 7, after)
		mustTicks(t, w, after-1)
		mustTick(t, w, 7)
		mustTicks(t, w, 140)
	}
}

// P16.2: from every place of the wheel, a timer is told by its tick and once, round after round.
func TestEveryTick(t *testing.T) {
	for _, ahead := range []int{0, 1, 31, 62, 63, 64, 65, 100, 127, 128} {
		for _, after := range []int{1, 2, 3, 31, 32, 33, 62, 63, 64, 65, 66, 100, 127, 128, 129, 192, 255, 256, 257, 1000, 1024, 4096} {
			w := newWheel(t)
			mustTicks(t, w, ahead)
			mustSet(t, w, 7, after)
			for gone := range after {
				mustLeft(t, w, 7, after-gone)
				mustTickUnless(t, w, gone == after-1)
			}
			mustTick(t, w, 7)
			mustTicks(t, w, 130)
		}
	}
}

// P16.2: timers of many rounds that share a slot are each told by their own tick.
func TestRounds(t *testing.T) {
	w := newWheel(t)
	for id := range 20 {
		mustSet(t, w, id, 64*(20-id))
	}
	mustSet(t, w, 20, api.MaxTick)
	for id := 19; id >= 0; id-- {
		mustTicks(t, w, 63)
		mustTick(t, w, id)
	}
	mustLeft(t, w, 20, api.MaxTick-64*20)
	mustBe(t, w, 64*20, 1)
}

// P16.1: ticks without timers are counted, and tell none.
func TestNow(t *testing.T) {
	w := newWheel(t)
	mustTicks(t, w, 1000)
	mustBe(t, w, 1000, 0)
	mustSet(t, w, 1, api.MaxTick)
	mustTicks(t, w, 1000)
	mustLeft(t, w, 1, api.MaxTick-1000)
}

// P16.1: of a nil wheel, and of one that New did not make, whatever it is asked.
func TestNotMade(t *testing.T) {
	for _, w := range []*wheel.Wheel{nil, new(wheel.Wheel)} {
		for _, n := range append(wrongAfter(), 1, 5, api.MaxTick) {
			mustNotSet(t, w, n, n, api.ErrZero)
			mustNotSet(t, w, 1, n, api.ErrZero)
			mustNotSet(t, w, n, 1, api.ErrZero)
			mustCancel(t, w, n, api.ErrZero)
			mustNotLeft(t, w, n, api.ErrZero)
			if l := w.Tick(); len(l) != 0 {
				t.Fatalf("Tick() = %v, want none", l)
			}
			mustBe(t, w, 0, 0)
		}
	}
}

// P4: what Tick has told is the caller's: the wheel neither sees nor makes changes in it.
func TestTickIsNew(t *testing.T) {
	w := newWheel(t)
	mustSet(t, w, 1, 1)
	mustSet(t, w, 2, 65)
	mustSet(t, w, 3, 1)
	l := w.Tick()
	mustSet(t, w, 4, 64)
	mustSet(t, w, 5, 64)
	if !slices.Equal(l, []int{1, 3}) {
		t.Fatalf("Tick's answer became %v", l)
	}
	l[0], l[1] = 8, 9
	l = append(l, 10)
	mustTicks(t, w, 63)
	mustTick(t, w, 2, 4, 5)
	if !slices.Equal(l, []int{8, 9, 10}) {
		t.Fatalf("Tick's answer became %v", l)
	}
}

// P5: what is done to one wheel leaves all others as they are.
func TestApart(t *testing.T) {
	v, w := newWheel(t), newWheel(t)
	mustSet(t, v, 1, 2)
	mustSet(t, w, 1, 1)
	mustSet(t, w, 2, 2)
	mustTick(t, v)
	mustBe(t, w, 0, 2)
	mustCancel(t, w, 2, api.OK)
	mustTick(t, w, 1)
	mustTick(t, v, 1)
	mustTick(t, w)
}

// timer is one of a plain list, in the order in which they were set.
type timer struct {
	id, due int
}

// plain is a model of a wheel: a list that is gone over whole.
type plain struct {
	list []timer
	now  int
}

func (p *plain) find(id int) int {
	return slices.IndexFunc(p.list, func(x timer) bool { return x.id == id })
}

func (p *plain) set(id, after int) api.Errno {
	at := p.find(id)
	switch {
	case id < 0 || after < 1 || after > api.MaxTick:
		return api.ErrArg
	case at < 0 && len(p.list) >= api.MaxTimers:
		return api.ErrFull
	}
	p.cancel(id)
	p.list = append(p.list, timer{id, p.now + after})
	return api.OK
}

func (p *plain) cancel(id int) api.Errno {
	at := p.find(id)
	if at < 0 {
		return api.ErrNone
	}
	p.list = slices.Delete(p.list, at, at+1)
	return api.OK
}

func (p *plain) tick() []int {
	p.now++
	var due []int
	var later []timer
	for _, x := range p.list {
		if x.due == p.now {
			due = append(due, x.id)
		} else {
			later = append(later, x)
		}
	}
	p.list = later
	return due
}

// mustMatch holds all that a wheel tells of the numbers up to most against the model.
func mustMatch(t *testing.T, w *wheel.Wheel, p *plain, most int) {
	t.Helper()
	mustBe(t, w, p.now, len(p.list))
	for id := -1; id <= most; id++ {
		if at := p.find(id); at < 0 {
			mustNotLeft(t, w, id, api.ErrNone)
		} else {
			mustLeft(t, w, id, p.list[at].due-p.now)
		}
	}
}

// P16.1, P16.2: random calls on a wheel beside the model, with few numbers and with more than a wheel has room for.
func TestRandom(t *testing.T) {
	for seed, c := range []struct{ ids, longest, steps, rounds int }{
		{4, 5, 300, 40}, {30, 70, 1000, 20}, {30, 300, 2000, 10}, {3 * api.MaxTimers, 3000, 6000, 2},
	} {
		r := rand.New(rand.NewSource(int64(seed)))
		for range c.rounds {
			w, p := newWheel(t), &plain{}
			for range c.steps {
				id := r.Intn(c.ids+1) - 1
				switch k := r.Intn(10); {
				case k < 5:
					after := r.Intn(c.longest + 1)
					if r.Intn(50) == 0 {
						after = api.MaxTick + r.Intn(3) - 1
					}
					mustNotSet(t, w, id, after, p.set(id, after))
				case k < 7:
					mustCancel(t, w, id, p.cancel(id))
				default:
					mustTick(t, w, p.tick()...)
				}
				mustMatch(t, w, p, min(c.ids, 30))
			}
			for len(p.list) > 0 && p.now < c.steps+c.longest {
				mustTick(t, w, p.tick()...)
			}
			mustMatch(t, w, p, c.ids)
		}
	}
}

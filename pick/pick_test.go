package pick_test

import (
	"math"
	"math/rand"
	"slices"
	"testing"

	"aqueduct/api"
	"aqueduct/pick"
)

// loads are backends that are up, with slots.
func loads(l ...int) []api.Back {
	var out []api.Back
	for n, load := range l {
		out = append(out, api.Back{Up: true, Slots: n + 1, Load: load})
	}
	return out
}

// mustBe asks twice, and looks at what was handed in.
func mustBe(t *testing.T, l []api.Back, fit, ties []int) {
	t.Helper()
	was := slices.Clone(l)
	for range 2 {
		if got := pick.Fit(l); !slices.Equal(got, fit) {
			t.Fatalf("Fit(%v) = %v, want %v", l, got, fit)
		}
		if got := pick.Ties(l); !slices.Equal(got, ties) {
			t.Fatalf("Ties(%v) = %v, want %v", l, got, ties)
		}
	}
	if !slices.Equal(l, was) {
		t.Fatalf("what was handed in has changed: %v, was %v", l, was)
	}
}

func mustChoose(t *testing.T, l []api.Back, draw, want int) {
	t.Helper()
	was := slices.Clone(l)
	for range 2 {
		if n, e := pick.Choose(l, draw); n != want || e != api.OK {
			t.Fatalf("Choose(%v, %d) = %d, %d, want %d", l, draw, n, e, want)
		}
	}
	if !slices.Equal(l, was) {
		t.Fatalf("what was handed in has changed: %v, was %v", l, was)
	}
}

// draws are numbers at their ends and about 0.
func draws() []int {
	l := []int{math.MinInt, math.MinInt + 1, math.MinInt + 2, -1 << 32, -1<<32 - 1, -1 << 31, 1 << 31, 1<<31 + 1, 1 << 32, 1<<32 + 1, math.MaxInt - 2, math.MaxInt - 1, math.MaxInt}
	for n := -40; n <= 40; n++ {
		l = append(l, n)
	}
	return l
}

// P18.1: the chapter's examples.
func TestExamples(t *testing.T) {
	l := loads(2, 1, 1)
	mustBe(t, l, []int{0, 1, 2}, []int{1, 2})
	mustChoose(t, l, 5, 2)
	mustChoose(t, l, -1, 2)
	for n := range l {
		l[n].Up = false
	}
	if n, e := pick.Choose(l, 0); n != 0 || e != api.ErrNone {
		t.Fatalf("Choose, none up: %d, %d", n, e)
	}
}

// P18.1: where none is up with a slot there is none to choose, whatever the draw; nil and empty lists are the same.
func TestNone(t *testing.T) {
	for _, l := range [][]api.Back{
		nil, {}, {{}}, {{Up: true}}, {{Slots: 1}}, {{Slots: math.MaxInt, Load: math.MinInt}},
		{{Up: true, Slots: -1}}, {{Up: true, Slots: math.MinInt}}, {{Up: true, Load: -1}, {Slots: 1, Load: -1}, {}},
		make([]api.Back, api.MaxBacks), make([]api.Back, 1000),
	} {
		mustBe(t, l, nil, nil)
		for _, draw := range draws() {
			if n, e := pick.Choose(l, draw); n != 0 || e != api.ErrNone {
				t.Fatalf("Choose(%v, %d) = %d, %d, want 0, ErrNone", l, draw, n, e)
			}
		}
	}
}

// P18.1: one that is down, or without a slot, is passed over, though it has less load.
func TestPassedOver(t *testing.T) {
	for _, out := range []api.Back{{}, {Slots: 1}, {Slots: math.MaxInt}, {Up: true}, {Up: true, Slots: -1}, {Up: true, Slots: math.MinInt}} {
		for _, load := range []int{math.MinInt, -1, 0, 4, 5, 6, math.MaxInt} {
			out.Load = load
			in := api.Back{Up: true, Slots: 1, Load: 5}
			mustBe(t, []api.Back{out, in}, []int{1}, []int{1})
			mustBe(t, []api.Back{in, out}, []int{0}, []int{0})
			mustBe(t, []api.Back{in, out, in, out, out, in}, []int{0, 2, 5}, []int{0, 2, 5})
			for _, draw := range draws() {
				mustChoose(t, []api.Back{out, in}, draw, 1)
				mustChoose(t, []api.Back{in, out}, draw, 0)
			}
		}
	}
}

// P18.1: slots make one fit, however many they are; they count for nothing else.
func TestSlots(t *testing.T) {
	l := []api.Back{{Up: true, Slots: 1, Load: 3}, {Up: true, Slots: math.MaxInt, Load: 3}, {Up: true, Slots: 100, Load: 4}, {Up: true, Slots: 2, Load: 3}}
	mustBe(t, l, []int{0, 1, 2, 3}, []int{0, 1, 3})
}

// P18.1, P6: loads at their ends, with ties and without.
func TestLoads(t *testing.T) {
	for _, c := range []struct {
		loads, ties []int
	}{
		{[]int{math.MaxInt}, []int{0}},
		{[]int{math.MinInt}, []int{0}},
		{[]int{math.MaxInt, math.MaxInt}, []int{0, 1}},
		{[]int{math.MaxInt, math.MinInt, math.MaxInt, math.MinInt}, []int{1, 3}},
		{[]int{math.MaxInt, math.MaxInt - 1}, []int{1}},
		{[]int{math.MinInt + 1, math.MinInt}, []int{1}},
		{[]int{1, 0, -1}, []int{2}},
		{[]int{-1, 0, -1}, []int{0, 2}},
		{[]int{0, 0, 0}, []int{0, 1, 2}},
		{[]int{1 << 32, 0, 1, 1 << 32}, []int{1}},
		{[]int{3, 2, 1, 2, 3}, []int{2}},
		{[]int{1, 2, 3, 2, 1}, []int{0, 4}},
	} {
		l := loads(c.loads...)
		var all []int
		for n := range l {
			all = append(all, n)
		}
		mustBe(t, l, all, c.ties)
	}
}

// P18.1: a draw's rest by the number of the ties, at all numbers of ties, made not negative.
func TestDraws(t *testing.T) {
	for count := 1; count <= api.MaxBacks; count++ {
		l := loads(make([]int, count)...)
		for want := range count {
			mustChoose(t, l, want, want)
			mustChoose(t, l, want+count, want)
			mustChoose(t, l, want+7*count, want)
			mustChoose(t, l, want-count, want)
			mustChoose(t, l, want-7*count, want)
		}
	}
	l := append([]api.Back{{Up: true, Slots: 1, Load: 1}}, loads(0, 0, 0)...)
	mustChoose(t, l, math.MaxInt, 2)   // 2^63 - 1 = 3 * 3074457345618258602 + 1
	mustChoose(t, l, math.MaxInt-1, 1) // a rest of 0
	mustChoose(t, l, math.MinInt, 2)   // a rest of -2, and 3 more
	mustChoose(t, l, math.MinInt+1, 3) // a rest of -1, and 3 more
	mustChoose(t, l, math.MinInt+2, 1) // a rest of 0
}

// P4: what is answered is new memory.
func TestNewMemory(t *testing.T) {
	l := loads(1, 1, 2)
	fit, ties := pick.Fit(l), pick.Ties(l)
	for _, got := range [][]int{fit, ties} {
		for n := range got {
			got[n] = -9
		}
	}
	mustBe(t, l, []int{0, 1, 2}, []int{0, 1})
	mustChoose(t, l, 1, 1)
}

// P18.1: more backends than a pool may have.
func TestMany(t *testing.T) {
	l := make([]api.Back, 100000)
	var fit, ties []int
	for n := range l {
		l[n] = api.Back{Up: n%2 == 0, Slots: n % 3, Load: n % 5}
		if n%2 == 0 && n%3 != 0 {
			fit = append(fit, n)
			if n%5 == 0 {
				ties = append(ties, n)
			}
		}
	}
	mustBe(t, l, fit, ties)
	mustChoose(t, l, -1, ties[len(ties)-1])
}

// better tells whether m may be chosen, and has less load than n: told pair by pair, without a least load.
func better(l []api.Back, n, m int) bool {
	return l[m].Up && l[m].Slots > 0 && l[m].Load < l[n].Load
}

// mustFollow looks at a choice, and at the ties, by what follows from the promises.
func mustFollow(t *testing.T, l []api.Back, draw int) {
	t.Helper()
	var fit, ties []int
	for n, b := range l {
		if !b.Up || b.Slots < 1 {
			continue
		}
		fit = append(fit, n)
		beaten := false
		for m := range l {
			beaten = beaten || better(l, n, m)
		}
		if !beaten {
			ties = append(ties, n)
		}
	}
	mustBe(t, l, fit, ties)
	n, e := pick.Choose(l, draw)
	if len(fit) == 0 {
		if n != 0 || e != api.ErrNone {
			t.Fatalf("Choose(%v, %d) = %d, %d, want 0, ErrNone", l, draw, n, e)
		}
		return
	}
	at := slices.Index(ties, n)
	if e != api.OK || at < 0 {
		t.Fatalf("Choose(%v, %d) = %d, %d, of the ties %v", l, draw, n, e, ties)
	}
	if (draw-at)%len(ties) != 0 {
		t.Fatalf("Choose(%v, %d) = %d, at place %d of the ties %v", l, draw, n, at, ties)
	}
}

// P18.2: at all lists of up to three of a few backends.
func TestAllSmall(t *testing.T) {
	var kinds []api.Back
	for _, up := range []bool{false, true} {
		for slots := -1; slots <= 2; slots++ {
			for load := -1; load <= 1; load++ {
				kinds = append(kinds, api.Back{Up: up, Slots: slots, Load: load})
			}
		}
	}
	for n, a := range kinds {
		mustFollow(t, kinds[n:n+1], n-5)
		for m, b := range kinds {
			mustFollow(t, []api.Back{a, b}, n-m)
			for _, c := range kinds {
				mustFollow(t, []api.Back{a, b, c}, n-m)
			}
		}
	}
}

// P18.2, P5: random lists, in which ties are often.
func TestRandom(t *testing.T) {
	r := rand.New(rand.NewSource(18))
	for range 20000 {
		l := make([]api.Back, r.Intn(api.MaxBacks+1))
		for n := range l {
			l[n] = api.Back{Up: r.Intn(4) > 0, Slots: r.Intn(4) - 1, Load: r.Intn(5)}
		}
		mustFollow(t, l, r.Intn(2001)-1000)
	}
}

package window_test

import (
	"math"
	"math/rand"
	"testing"

	"aqueduct/api"
	"aqueduct/window"
)

// far are numbers that no call takes, on both sides.
func far() []int {
	return []int{math.MinInt, math.MinInt + 1, -1 << 40, -1 << 32, -api.MaxWindow - 2, -api.MaxWindow - 1, api.MaxWindow + 1, api.MaxWindow + 2, 1 << 32, 1<<32 + 1, 1 << 40, math.MaxInt - 1, math.MaxInt}
}

// below are numbers below 0.
func below() []int {
	return []int{-1, -2, -api.MaxWindow, -api.MaxWindow - 1, -1 << 32, math.MinInt + 1, math.MinInt}
}

func newWindow(t *testing.T, n int) *window.Window {
	t.Helper()
	w, e := window.New(n)
	if w == nil || e != api.OK {
		t.Fatalf("New(%d) = %v, %d", n, w, e)
	}
	mustSize(t, w, n)
	return w
}

// shifted answers a window that was made and shifted to any size up to api.MaxWindow.
func shifted(t *testing.T, n int) *window.Window {
	t.Helper()
	w := newWindow(t, max(0, n))
	for n < w.Size() {
		must(t, "Shift", w.Shift, max(-api.MaxWindow, n-w.Size()), api.OK)
	}
	mustSize(t, w, n)
	return w
}

func newCredit(t *testing.T, n int) *window.Credit {
	t.Helper()
	c, e := window.NewCredit(n)
	if c == nil || e != api.OK {
		t.Fatalf("NewCredit(%d) = %v, %d", n, c, e)
	}
	mustHold(t, c, n, 0)
	return c
}

func must(t *testing.T, name string, call func(int) api.Errno, n int, want api.Errno) {
	t.Helper()
	if e := call(n); e != want {
		t.Fatalf("%s(%d) = %d, want %d", name, n, e, want)
	}
}

func mustSize(t *testing.T, w *window.Window, want int) {
	t.Helper()
	for range 2 {
		if n := w.Size(); n != want {
			t.Fatalf("Size() = %d, want %d", n, want)
		}
	}
}

func mustHold(t *testing.T, c *window.Credit, size, held int) {
	t.Helper()
	for range 2 {
		if c.Size() != size || c.Held() != held {
			t.Fatalf("Size(), Held() = %d, %d, want %d, %d", c.Size(), c.Held(), size, held)
		}
	}
}

func mustGive(t *testing.T, c *window.Credit, want int) {
	t.Helper()
	size, held := c.Size(), c.Held()
	if n := c.Give(); n != want {
		t.Fatalf("Give() = %d, want %d", n, want)
	}
	mustHold(t, c, size+want, held)
}

// P11.1, P11.2: the chapter's examples.
func TestExamples(t *testing.T) {
	w := newWindow(t, 5)
	must(t, "Take", w.Take, 6, api.ErrWindow)
	must(t, "Take", w.Take, 5, api.OK)
	must(t, "Shift", w.Shift, -3, api.OK)
	mustSize(t, w, -3)
	must(t, "Take", w.Take, 0, api.OK)
	must(t, "Add", w.Add, 1<<31-1, api.OK)
	must(t, "Add", w.Add, 4, api.ErrLong)
	c := newCredit(t, 10)
	must(t, "Got", c.Got, 10, api.OK)
	must(t, "Used", c.Used, 4, api.OK)
	mustGive(t, c, 0)
	must(t, "Used", c.Used, 1, api.OK)
	mustGive(t, c, 5)
	mustHold(t, c, 5, 5)
}

// P11.1: New's bounds.
func TestNew(t *testing.T) {
	for _, n := range append(far(), below()...) {
		if w, e := window.New(n); w != nil || e != api.ErrArg {
			t.Errorf("New(%d) = %v, %d, want nil, ErrArg", n, w, e)
		}
	}
	for _, n := range []int{0, 1, 2, api.Window, api.MaxWindow - 1, api.MaxWindow} {
		newWindow(t, n)
	}
}

// P11.1: Take spends what is there, to the last.
func TestTake(t *testing.T) {
	for _, n := range []int{0, 1, 2, 100, api.Window, api.MaxWindow} {
		w := newWindow(t, n)
		for _, k := range below() {
			must(t, "Take", w.Take, k, api.ErrArg)
		}
		for _, k := range []int{n + 1, n + 2, 2*n + 1, 1 << 32, 1<<32 + n, math.MaxInt} {
			must(t, "Take", w.Take, k, api.ErrWindow)
		}
		mustSize(t, w, n)
		half := n / 2
		must(t, "Take", w.Take, half, api.OK)
		mustSize(t, w, n-half)
		must(t, "Take", w.Take, n-half+1, api.ErrWindow)
		must(t, "Take", w.Take, n-half, api.OK)
		must(t, "Take", w.Take, 0, api.OK)
		mustSize(t, w, 0)
		must(t, "Take", w.Take, 1, api.ErrWindow)
		must(t, "Take", w.Take, -1, api.ErrArg)
		mustSize(t, w, 0)
	}
}

// P11.1: of a window that is below 0 nothing can be taken, and that always.
func TestTakeBelow(t *testing.T) {
	for _, n := range []int{-1, -2, -api.MaxWindow, -api.MaxWindow - 1, -3 * api.MaxWindow} {
		w := shifted(t, n)
		must(t, "Take", w.Take, 0, api.OK)
		for _, k := range []int{1, 2, -n - 1, -n, -n + 1, api.MaxWindow, math.MaxInt} {
			if k > 0 {
				must(t, "Take", w.Take, k, api.ErrWindow)
			}
		}
		for _, k := range append(below(), n) {
			must(t, "Take", w.Take, k, api.ErrArg)
		}
		mustSize(t, w, n)
	}
}

// P11.1: Add takes 1 to api.MaxWindow.
func TestAddWrong(t *testing.T) {
	for _, n := range []int{-api.MaxWindow, -5, 0, 1, api.MaxWindow - 1, api.MaxWindow} {
		w := shifted(t, n)
		for _, k := range append(append(far(), below()...), 0) {
			must(t, "Add", w.Add, k, api.ErrArg)
		}
		mustSize(t, w, n)
	}
}

// P11.1: Shift takes -api.MaxWindow to api.MaxWindow.
func TestShiftWrong(t *testing.T) {
	for _, n := range []int{-api.MaxWindow, -5, 0, 1, api.MaxWindow - 1, api.MaxWindow} {
		w := shifted(t, n)
		for _, k := range far() {
			must(t, "Shift", w.Shift, k, api.ErrArg)
		}
		mustSize(t, w, n)
	}
}

// P11.1: neither Add nor Shift makes a window greater than api.MaxWindow.
func TestGrow(t *testing.T) {
	for _, n := range []int{-3 * api.MaxWindow, -api.MaxWindow - 1, -api.MaxWindow, -1, 0, 1, 7, api.Window, api.MaxWindow - 1, api.MaxWindow} {
		for _, k := range []int{1, 2, 7, api.MaxWindow - n, api.MaxWindow - n + 1, api.MaxWindow - 1, api.MaxWindow} {
			if k < 1 || k > api.MaxWindow {
				continue
			}
			size, want := n+k, api.OK
			if size > api.MaxWindow {
				size, want = n, api.ErrLong
			}
			added, moved := shifted(t, n), shifted(t, n)
			must(t, "Add", added.Add, k, want)
			mustSize(t, added, size)
			must(t, "Shift", moved.Shift, k, want)
			mustSize(t, moved, size)
		}
	}
}

// P11.1: Shift may leave a window below 0, by how much ever; what comes back fills it from there.
func TestShiftBelow(t *testing.T) {
	w := newWindow(t, 3)
	must(t, "Shift", w.Shift, 0, api.OK)
	mustSize(t, w, 3)
	must(t, "Shift", w.Shift, -3, api.OK)
	mustSize(t, w, 0)
	for i := range 5 {
		must(t, "Shift", w.Shift, -api.MaxWindow, api.OK)
		mustSize(t, w, -api.MaxWindow*(i+1))
	}
	for range 6 {
		must(t, "Add", w.Add, api.MaxWindow, api.OK)
	}
	mustSize(t, w, api.MaxWindow)
	must(t, "Shift", w.Shift, 0, api.OK)
	must(t, "Shift", w.Shift, 1, api.ErrLong)
	must(t, "Shift", w.Shift, -api.MaxWindow, api.OK)
	mustSize(t, w, 0)
	must(t, "Shift", w.Shift, api.MaxWindow, api.OK)
	mustSize(t, w, api.MaxWindow)
	must(t, "Take", w.Take, api.MaxWindow, api.OK)
	mustSize(t, w, 0)
}

// P11.2: NewCredit's bounds.
func TestNewCredit(t *testing.T) {
	for _, n := range append(far(), below()...) {
		if c, e := window.NewCredit(n); c != nil || e != api.ErrArg {
			t.Errorf("NewCredit(%d) = %v, %d, want nil, ErrArg", n, c, e)
		}
	}
	for _, n := range []int{0, 1, 2, api.Window, api.MaxWindow - 1, api.MaxWindow} {
		c := newCredit(t, n)
		mustGive(t, c, 0)
		mustHold(t, c, n, 0)
	}
}

// P11.2: Got takes what the window has, to the last.
func TestGot(t *testing.T) {
	for _, n := range []int{0, 1, 2, 100, api.Window, api.MaxWindow} {
		c := newCredit(t, n)
		for _, k := range below() {
			must(t, "Got", c.Got, k, api.ErrArg)
		}
		for _, k := range []int{n + 1, n + 2, 2*n + 1, 1 << 32, 1<<32 + n, math.MaxInt} {
			must(t, "Got", c.Got, k, api.ErrWindow)
		}
		mustHold(t, c, n, 0)
		half := n / 2
		must(t, "Got", c.Got, half, api.OK)
		mustHold(t, c, n-half, half)
		must(t, "Got", c.Got, n-half+1, api.ErrWindow)
		must(t, "Got", c.Got, n-half, api.OK)
		must(t, "Got", c.Got, 0, api.OK)
		mustHold(t, c, 0, n)
		must(t, "Got", c.Got, 1, api.ErrWindow)
		must(t, "Got", c.Got, -1, api.ErrArg)
		mustGive(t, c, 0)
		mustHold(t, c, 0, n)
	}
}

// P11.2: what is owed is no window till it is given back.
func TestGotOwed(t *testing.T) {
	c := newCredit(t, 10)
	must(t, "Got", c.Got, 8, api.OK)
	must(t, "Used", c.Used, 8, api.OK)
	mustHold(t, c, 2, 0)
	must(t, "Got", c.Got, 3, api.ErrWindow)
	mustGive(t, c, 8)
	must(t, "Got", c.Got, 11, api.ErrWindow)
	must(t, "Got", c.Got, 10, api.OK)
	mustHold(t, c, 0, 10)
}

// P11.2: Used takes what is held, to the last, and leaves the window as it is.
func TestUsed(t *testing.T) {
	for _, n := range []int{0, 1, 5, 100, api.MaxWindow} {
		c := newCredit(t, api.MaxWindow)
		must(t, "Got", c.Got, n, api.OK)
		for _, k := range append(below(), n+1, n+2, 2*n+1, 1<<32, 1<<32+n, math.MaxInt) {
			must(t, "Used", c.Used, k, api.ErrArg)
		}
		mustHold(t, c, api.MaxWindow-n, n)
		half := n / 2
		must(t, "Used", c.Used, half, api.OK)
		mustHold(t, c, api.MaxWindow-n, n-half)
		must(t, "Used", c.Used, n-half+1, api.ErrArg)
		must(t, "Used", c.Used, n-half, api.OK)
		must(t, "Used", c.Used, 0, api.OK)
		must(t, "Used", c.Used, 1, api.ErrArg)
		mustHold(t, c, api.MaxWindow-n, 0)
	}
}

// P11.2: Give gives from half of the whole on, all that is owed, and once.
func TestGive(t *testing.T) {
	for _, n := range []int{1, 2, 3, 4, 9, 10, api.Window, api.MaxWindow - 1, api.MaxWindow} {
		half := n/2 + n%2
		c := newCredit(t, n)
		must(t, "Got", c.Got, n, api.OK)
		must(t, "Used", c.Used, half-1, api.OK)
		mustGive(t, c, 0)
		mustHold(t, c, 0, n-half+1)
		must(t, "Used", c.Used, 1, api.OK)
		mustGive(t, c, half)
		mustGive(t, c, 0)
		mustHold(t, c, half, n-half)
		must(t, "Used", c.Used, n-half, api.OK)
		must(t, "Got", c.Got, half, api.OK)
		must(t, "Used", c.Used, half, api.OK)
		mustGive(t, c, n)
		mustGive(t, c, 0)
		mustHold(t, c, n, 0)
	}
}

// P11.2: a credit of 0 owes nothing, and gives none.
func TestGiveNone(t *testing.T) {
	c := newCredit(t, 0)
	for range 3 {
		must(t, "Got", c.Got, 0, api.OK)
		must(t, "Used", c.Used, 0, api.OK)
		must(t, "Got", c.Got, 1, api.ErrWindow)
		must(t, "Used", c.Used, 1, api.ErrArg)
		mustGive(t, c, 0)
		mustHold(t, c, 0, 0)
	}
}

// P11.3: of nil objects, and of ones that no call made, whatever they are asked.
func TestNotMade(t *testing.T) {
	made := new(window.Window)
	owing := new(window.Credit)
	for _, n := range append(append(far(), below()...), 0, 1, 5, api.MaxWindow) {
		for _, w := range []*window.Window{nil, made} {
			must(t, "Take", w.Take, n, api.ErrZero)
			must(t, "Add", w.Add, n, api.ErrZero)
			must(t, "Shift", w.Shift, n, api.ErrZero)
			mustSize(t, w, 0)
		}
		for _, c := range []*window.Credit{nil, owing} {
			must(t, "Got", c.Got, n, api.ErrZero)
			must(t, "Used", c.Used, n, api.ErrZero)
			mustGive(t, c, 0)
			mustHold(t, c, 0, 0)
		}
	}
}

// P5: what is done to one object leaves all others as they are.
func TestApart(t *testing.T) {
	v, w := newWindow(t, 9), newWindow(t, 9)
	c, d := newCredit(t, 9), newCredit(t, 9)
	must(t, "Take", v.Take, 4, api.OK)
	must(t, "Got", c.Got, 9, api.OK)
	must(t, "Used", c.Used, 4, api.OK)
	mustSize(t, w, 9)
	mustHold(t, d, 9, 0)
	mustGive(t, d, 0)
	must(t, "Shift", w.Shift, -9, api.OK)
	mustSize(t, v, 5)
	mustHold(t, c, 0, 5)
}

// P11.1: random calls on a window beside a plain sum.
func TestWindowRandom(t *testing.T) {
	r := rand.New(rand.NewSource(11))
	for range 200 {
		n := r.Intn(20)
		w := newWindow(t, n)
		for range 200 {
			k := r.Intn(30) - 10
			if r.Intn(10) == 0 {
				k = api.MaxWindow - r.Intn(30)
			}
			switch r.Intn(3) {
			case 0:
				want := api.OK
				if k < 0 {
					want = api.ErrArg
				} else if k > 0 && k > n {
					want = api.ErrWindow
				} else {
					n -= k
				}
				must(t, "Take", w.Take, k, want)
			case 1:
				want := api.OK
				if k < 1 {
					want = api.ErrArg
				} else if n+k > api.MaxWindow {
					want = api.ErrLong
				} else {
					n += k
				}
				must(t, "Add", w.Add, k, want)
			case 2:
				if r.Intn(2) == 0 {
					k = -k
				}
				want := api.OK
				if n+k > api.MaxWindow {
					want = api.ErrLong
				} else {
					n += k
				}
				must(t, "Shift", w.Shift, k, want)
			}
			mustSize(t, w, n)
		}
	}
}

// P11.4: random calls on a credit beside a model that counts what is owed by itself: window, held and owed are together the whole.
func TestCreditRandom(t *testing.T) {
	r := rand.New(rand.NewSource(12))
	for range 300 {
		whole := r.Intn(40)
		size, held, owed := whole, 0, 0
		c := newCredit(t, whole)
		for range 200 {
			k := r.Intn(24) - 3
			switch r.Intn(3) {
			case 0:
				want := api.OK
				if k < 0 {
					want = api.ErrArg
				} else if k > size {
					want = api.ErrWindow
				} else {
					size, held = size-k, held+k
				}
				must(t, "Got", c.Got, k, want)
			case 1:
				want := api.OK
				if k < 0 || k > held {
					want = api.ErrArg
				} else {
					held, owed = held-k, owed+k
				}
				must(t, "Used", c.Used, k, want)
			case 2:
				want := 0
				if owed > 0 && 2*owed >= whole {
					want = owed
					size, owed = size+owed, 0
				}
				mustGive(t, c, want)
			}
			mustHold(t, c, size, held)
			if c.Size()+c.Held()+owed != whole || c.Size() < 0 || c.Held() < 0 {
				t.Fatalf("Size(), Held() = %d, %d beside %d owed of %d", c.Size(), c.Held(), owed, whole)
			}
		}
	}
}

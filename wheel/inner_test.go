package wheel

import (
	"slices"
	"testing"

	"aqueduct/api"
)

// P16.2: the longest timer's tick, from late ticks too, which no test can come to tick by tick.
func TestLongest(t *testing.T) {
	for _, ahead := range []int{0, 1, 63, 64, api.MaxTick - 1, api.MaxTick} {
		w := New()
		w.now = ahead
		if e := w.Set(1, api.MaxTick); e != api.OK {
			t.Fatalf("Set(1, MaxTick) = %d", e)
		}
		w.now += api.MaxTick - 2
		if l := w.Tick(); len(l) != 0 {
			t.Fatalf("Tick() = %v, want none", l)
		}
		if n, e := w.Left(1); n != 1 || e != api.OK {
			t.Fatalf("Left(1) = %d, %d, want 1", n, e)
		}
		if l := w.Tick(); !slices.Equal(l, []int{1}) || w.Now() != ahead+api.MaxTick || w.Len() != 0 {
			t.Fatalf("Tick() = %v, want 1", l)
		}
	}
}

package chunk_test

import (
	"bytes"
	"math"
	"strings"
	"testing"

	"aqueduct/api"
	"aqueduct/chunk"
)

func newRing(t *testing.T, n int) *chunk.Ring {
	t.Helper()
	r, e := chunk.New(n)
	if e != api.OK || r == nil {
		t.Fatalf("New(%d) = %v, %d", n, r, e)
	}
	return r
}

func newQueue(t *testing.T, texts ...string) *chunk.Queue {
	t.Helper()
	q := chunk.NewQueue()
	for _, s := range texts {
		if e := q.Add([]byte(s)); e != api.OK {
			t.Fatalf("Add(%q) = %d", s, e)
		}
	}
	return q
}

// mustHold looks at all that a ring tells of itself.
func mustHold(t *testing.T, r *chunk.Ring, want string, room int) {
	t.Helper()
	if r.Len() != len(want) || r.Room() != room || r.Cap() != len(want)+room {
		t.Errorf("Len, Room, Cap = %d, %d, %d, want %d, %d, %d", r.Len(), r.Room(), r.Cap(), len(want), room, len(want)+room)
	}
	if b := r.Peek(math.MaxInt); string(b) != want {
		t.Errorf("holds %q, want %q", b, want)
	}
}

func mustQueue(t *testing.T, q *chunk.Queue, bytes, chunks int) {
	t.Helper()
	if q.Len() != bytes || q.Chunks() != chunks {
		t.Errorf("Len, Chunks = %d, %d, want %d, %d", q.Len(), q.Chunks(), bytes, chunks)
	}
}

func mustTake(t *testing.T, take func(int) []byte, n int, want string) {
	t.Helper()
	if b := take(n); string(b) != want {
		t.Errorf("asked for %d: %q, want %q", n, b, want)
	}
}

func TestNewBounds(t *testing.T) { // P1.1
	for _, n := range []int{0, 1, api.MaxRing - 1, api.MaxRing} {
		mustHold(t, newRing(t, n), "", n)
	}
	for _, n := range []int{math.MinInt, -1, api.MaxRing + 1, math.MaxInt} {
		if r, e := chunk.New(n); e != api.ErrArg || r != nil {
			t.Errorf("New(%d) = %v, %d, want none, ErrArg", n, r, e)
		}
	}
}

func TestRingExample(t *testing.T) { // P1.1
	r := newRing(t, 4)
	if n := r.Put([]byte("abcdef")); n != 4 {
		t.Errorf("Put(abcdef) = %d, want 4", n)
	}
	mustTake(t, r.Take, 3, "abc")
	if n := r.Put([]byte("xy")); n != 2 {
		t.Errorf("Put(xy) = %d, want 2", n)
	}
	mustTake(t, r.Peek, 9, "dxy")
	mustHold(t, r, "dxy", 1)
}

func TestRingPut(t *testing.T) { // P1.1
	cases := []struct {
		room int
		held string
		put  []byte
		n    int
		want string
	}{
		{0, "", []byte("a"), 0, ""},
		{0, "", nil, 0, ""},
		{3, "", nil, 0, ""},
		{3, "a", []byte{}, 0, "a"},
		{3, "a", []byte("b"), 1, "ab"},
		{3, "a", []byte("bc"), 2, "abc"},
		{3, "a", []byte("bcd"), 2, "abc"},
		{3, "abc", []byte("d"), 0, "abc"},
		{3, "", []byte{0, 255, 0}, 3, "\x00\xff\x00"},
	}
	for _, c := range cases {
		r := newRing(t, c.room)
		r.Put([]byte(c.held))
		if n := r.Put(c.put); n != c.n {
			t.Errorf("%d, %q: Put(%q) = %d, want %d", c.room, c.held, c.put, n, c.n)
		}
		mustHold(t, r, c.want, c.room-len(c.want))
	}
}

func TestRingTakePeekDrop(t *testing.T) { // P1.1, P6
	cases := []struct {
		n    int
		out  string
		left string
	}{
		{math.MinInt, "", "abc"}, {-1, "", "abc"}, {0, "", "abc"},
		{1, "a", "bc"}, {2, "ab", "c"}, {3, "abc", ""}, {4, "abc", ""}, {math.MaxInt, "abc", ""},
	}
	for _, c := range cases {
		for turn := range 5 { // where the first byte lies must not be seen
			made := func() *chunk.Ring {
				r := newRing(t, 5)
				r.Put([]byte("vwxyz"))
				r.Drop(5)
				for range turn {
					r.Put([]byte("."))
					r.Drop(1)
				}
				r.Put([]byte("abc"))
				return r
			}
			r := made()
			mustTake(t, r.Peek, c.n, c.out)
			mustHold(t, r, "abc", 2)
			mustTake(t, r.Take, c.n, c.out)
			mustHold(t, r, c.left, 5-len(c.left))
			r = made()
			if n := r.Drop(c.n); n != len(c.out) {
				t.Errorf("Drop(%d) = %d, want %d", c.n, n, len(c.out))
			}
			mustHold(t, r, c.left, 5-len(c.left))
		}
	}
}

func TestGreatestRing(t *testing.T) { // P1.1, P1.4
	r := newRing(t, api.MaxRing)
	b := make([]byte, api.MaxRing+1)
	for i := range b {
		b[i] = byte(i * 7 >> 3)
	}
	if n := r.Put(b); n != api.MaxRing || r.Room() != 0 {
		t.Errorf("Put = %d, Room = %d", n, r.Room())
	}
	if n := r.Drop(1000); n != 1000 {
		t.Errorf("Drop = %d", n)
	}
	if n := r.Put(b); n != 1000 {
		t.Errorf("Put = %d", n)
	}
	if got := r.Take(api.MaxRing); !bytes.Equal(got[:api.MaxRing-1000], b[1000:api.MaxRing]) || !bytes.Equal(got[api.MaxRing-1000:], b[:1000]) {
		t.Error("the greatest ring's bytes are not those that were put")
	}
	mustHold(t, r, "", api.MaxRing)
}

func TestQueueExample(t *testing.T) { // P1.2
	q := newQueue(t, "ab", "c")
	mustQueue(t, q, 3, 2)
	mustTake(t, q.Take, 2, "ab")
	mustQueue(t, q, 1, 1)
	mustTake(t, q.Take, 9, "c")
	mustQueue(t, q, 0, 0)
}

func TestQueueTake(t *testing.T) { // P1.2, P6
	cases := []struct {
		n      int
		out    string
		left   string
		chunks int
	}{
		{math.MinInt, "", "abcdef", 3}, {-1, "", "abcdef", 3}, {0, "", "abcdef", 3},
		{1, "a", "bcdef", 3}, {2, "ab", "cdef", 2}, {3, "abc", "def", 1},
		{4, "abcd", "ef", 1}, {5, "abcde", "f", 1}, {6, "abcdef", "", 0},
		{7, "abcdef", "", 0}, {math.MaxInt, "abcdef", "", 0},
	}
	for _, c := range cases {
		q := newQueue(t, "ab", "c", "def")
		mustTake(t, q.Take, c.n, c.out)
		mustQueue(t, q, len(c.left), c.chunks)
		mustTake(t, q.Take, 6, c.left)
		mustQueue(t, q, 0, 0)
	}
}

func TestQueueEmptyChunk(t *testing.T) { // P1.2, P3
	q := newQueue(t)
	mustQueue(t, q, 0, 0)
	mustTake(t, q.Take, 1, "")
	for _, b := range [][]byte{nil, {}, []byte("ab")[:0]} {
		if e := q.Add(b); e != api.OK {
			t.Errorf("Add(none) = %d", e)
		}
		mustQueue(t, q, 0, 0)
	}
}

func TestQueueFull(t *testing.T) { // P1.2
	q := newQueue(t)
	for i := range api.MaxChunks {
		if e := q.Add([]byte("ab")); e != api.OK {
			t.Fatalf("chunk %d: Add = %d", i, e)
		}
	}
	for _, b := range [][]byte{[]byte("c"), nil, {}} {
		if e := q.Add(b); e != api.ErrFull {
			t.Errorf("Add(%q) to a full queue = %d, want ErrFull", b, e)
		}
		mustQueue(t, q, 2*api.MaxChunks, api.MaxChunks)
	}
	mustTake(t, q.Take, 1, "a")
	if e := q.Add([]byte("c")); e != api.ErrFull {
		t.Errorf("Add = %d: a chunk of which a byte is left still counts", e)
	}
	mustTake(t, q.Take, 1, "b")
	if e := q.Add([]byte("c")); e != api.OK {
		t.Errorf("Add = %d, but a chunk has gone", e)
	}
	mustTake(t, q.Take, math.MaxInt, strings.Repeat("ab", api.MaxChunks-1)+"c")
	mustQueue(t, q, 0, 0)
}

func TestNoRing(t *testing.T) { // P1.3, P1
	for _, r := range []*chunk.Ring{nil, {}, new(chunk.Ring)} {
		for range 2 {
			if r.Put([]byte("ab")) != 0 || r.Put(nil) != 0 {
				t.Error("Put lays bytes into no ring")
			}
			for _, n := range []int{math.MinInt, -1, 0, 1, math.MaxInt} {
				if len(r.Take(n)) != 0 || len(r.Peek(n)) != 0 || r.Drop(n) != 0 {
					t.Errorf("bytes come out of no ring at %d", n)
				}
			}
			if r.Len() != 0 || r.Room() != 0 || r.Cap() != 0 {
				t.Errorf("Len, Room, Cap = %d, %d, %d", r.Len(), r.Room(), r.Cap())
			}
		}
	}
}

func TestNoQueue(t *testing.T) { // P1.3, P1
	for _, q := range []*chunk.Queue{nil, {}, new(chunk.Queue)} {
		for _, b := range [][]byte{[]byte("ab"), nil, {}} {
			if e := q.Add(b); e != api.ErrZero {
				t.Errorf("Add(%q) = %d, want ErrZero", b, e)
			}
		}
		for _, n := range []int{math.MinInt, -1, 0, 1, math.MaxInt} {
			if len(q.Take(n)) != 0 {
				t.Errorf("bytes come out of no queue at %d", n)
			}
		}
		mustQueue(t, q, 0, 0)
	}
}

// TestCopiedObjects: a copy of an object is one that no call made, too; it may answer anything, but must not panic.
func TestCopiedObjects(t *testing.T) { // P1
	r := newRing(t, 4)
	r.Put([]byte("abc"))
	q := newQueue(t, "ab", "cd", "ef")
	r2, q2 := *r, *q
	for _, n := range []int{1, 2, 9} {
		r.Take(n)
		r2.Take(n)
		r.Put([]byte("xyz"))
		r2.Put([]byte("z"))
		q.Take(n)
		q2.Add([]byte("g"))
		q.Add([]byte("h"))
		q2.Take(n)
	}
}

func TestNothingShared(t *testing.T) { // P4
	in := []byte("abcd")
	r := newRing(t, 8)
	q := chunk.NewQueue()
	r.Put(in)
	q.Add(in)
	if string(in) != "abcd" {
		t.Errorf("what was handed in is now %q", in)
	}
	copy(in, "....")
	peeked := r.Peek(2)
	copy(peeked, "..")
	mustHold(t, r, "abcd", 4)
	mustTake(t, q.Take, 1, "a")
	for _, b := range [][]byte{r.Take(2), q.Take(1)} {
		_ = append(b, '.') // behind an answer there is none of what is held
		copy(b, "..")
	}
	mustTake(t, r.Take, 9, "cd")
	mustTake(t, q.Take, 9, "cd")
}

func TestObjectsApart(t *testing.T) { // P5
	a, b := newRing(t, 3), newRing(t, 3)
	a.Put([]byte("abc"))
	mustHold(t, b, "", 3)
	p, q := newQueue(t, "ab"), newQueue(t)
	mustQueue(t, q, 0, 0)
	q.Add([]byte("c"))
	mustTake(t, p.Take, 9, "ab")
	mustTake(t, q.Take, 9, "c")
}

// TestRingAllWays goes through every run of six puts and takes on small rings, beside a plain list.
func TestRingAllWays(t *testing.T) { // P1.1, P1.4
	const steps, ways = 6, 7 // put 1 to 4 bytes, take 1 to 3
	for room := range 5 {
		for run := range 117649 { // ways to the power of steps
			r := newRing(t, room)
			var held []byte
			next, rest := byte(0), run
			for range steps {
				if way := rest % ways; way < 4 {
					b := []byte{next, next + 1, next + 2, next + 3}[:way+1]
					n := min(len(b), room-len(held))
					held = append(held, b[:n]...)
					next += byte(n)
					if got := r.Put(b); got != n {
						t.Fatalf("room %d, run %d: Put = %d, want %d", room, run, got, n)
					}
				} else {
					n := min(way-3, len(held))
					if got := r.Take(way - 3); !bytes.Equal(got, held[:n]) {
						t.Fatalf("room %d, run %d: Take = %v, want %v", room, run, got, held[:n])
					}
					held = held[n:]
				}
				rest /= ways
				if r.Len() != len(held) || r.Len() > room || r.Len()+r.Room() != room {
					t.Fatalf("room %d, run %d: Len %d, Room %d", room, run, r.Len(), r.Room())
				}
			}
			if got := r.Peek(room); !bytes.Equal(got, held) {
				t.Fatalf("room %d, run %d: holds %v, want %v", room, run, got, held)
			}
		}
	}
}

// steps answers numbers below 2^16 that look drawn but are the same at each run.
func steps() func(n int) int {
	x := uint32(1)
	return func(n int) int {
		x = x*1664525 + 1013904223
		return int(x>>16) % n
	}
}

// TestStreamOfBytes: whatever they are put in and taken by, bytes come out in order, each once.
func TestStreamOfBytes(t *testing.T) { // P1.4
	draw := steps()
	r, q := newRing(t, 37), newQueue(t)
	ringIn, queueIn, ringOut, queueOut := 0, 0, 0, 0
	value := func(i int) byte { return byte(i ^ i>>8) }
	put := func(from int) []byte {
		b := make([]byte, draw(30))
		for i := range b {
			b[i] = value(from + i)
		}
		return b
	}
	see := func(b []byte, from int) int {
		for i, x := range b {
			if x != value(from+i) {
				t.Fatalf("byte %d is %d, want %d", from+i, x, value(from+i))
			}
		}
		return from + len(b)
	}
	for range 20000 {
		switch draw(5) {
		case 0:
			ringIn += r.Put(put(ringIn))
		case 1:
			b := put(queueIn)
			if q.Add(b) == api.OK {
				queueIn += len(b)
			}
		case 2:
			ringOut = see(r.Take(draw(45)-3), ringOut)
		case 3:
			queueOut = see(q.Take(draw(45)-3), queueOut)
		case 4:
			see(r.Peek(draw(45)), ringOut)
			ringOut += r.Drop(draw(5))
		}
		if r.Len() != ringIn-ringOut || r.Len() > 37 || q.Len() != queueIn-queueOut {
			t.Fatalf("Len: %d of the ring, %d of the queue", r.Len(), q.Len())
		}
	}
	see(r.Take(math.MaxInt), ringOut)
	see(q.Take(math.MaxInt), queueOut)
}

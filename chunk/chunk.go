// Package chunk is layer 1: bounded rings of bytes, and queues of chunks of which any number of bytes is taken.
package chunk

import (
	"aqueduct/api"
)

// count is how many bytes are held. Rings and queues embed it, so that both bound what is asked of them alike.
type count struct {
	held int
}

// atMost tells how many bytes an asker for n gets.
func (c *count) atMost(n int) int {
	return max(0, min(n, c.held))
}

// Ring holds at most as many bytes as it was made for. The zero Ring has room for none.
type Ring struct {
	count
	bytes []byte // grows with what is held, so that great rings that stay nearly empty cost little
	first int    // where in bytes the first one lies that is held
	limit int
}

// New makes an empty ring with room for n bytes.
func New(n int) (*Ring, api.Errno) {
	if n < 0 || n > api.MaxRing {
		return nil, api.ErrArg
	}
	return &Ring{limit: n}, api.OK
}

// Put lays as many of b's first bytes as have room behind those that are held, and tells how many.
func (r *Ring) Put(b []byte) int {
	if r == nil {
		return 0
	}
	n := min(len(b), r.Room())
	r.widen(r.held + n)
	at := r.place(r.held)
	k := copy(r.bytes[at:], b[:n])
	copy(r.bytes, b[k:n])
	r.held += n
	return n
}

// Take answers the first n bytes, which are held no more.
func (r *Ring) Take(n int) []byte {
	b := r.Peek(n)
	r.Drop(len(b))
	return b
}

// Peek answers the first n bytes, which are held still.
func (r *Ring) Peek(n int) []byte {
	if r == nil {
		return nil
	}
	b := make([]byte, r.atMost(n))
	r.lay(b)
	return b
}

// Drop lets the first n bytes go, and tells how many went.
func (r *Ring) Drop(n int) int {
	if r == nil {
		return 0
	}
	n = r.atMost(n)
	r.first = r.place(n)
	r.held -= n
	return n
}

// Len tells how many bytes are held.
func (r *Ring) Len() int {
	if r == nil {
		return 0
	}
	return r.held
}

// Room tells how many more bytes can be put.
func (r *Ring) Room() int {
	if r == nil {
		return 0
	}
	return r.limit - r.held
}

// Cap tells how many bytes the ring was made for.
func (r *Ring) Cap() int {
	if r == nil {
		return 0
	}
	return r.limit
}

// place tells where the byte k behind the first one lies; k is at most len(r.bytes), so one turn is enough.
func (r *Ring) place(k int) int {
	at := r.first + k
	if at >= len(r.bytes) {
		at -= len(r.bytes)
	}
	return at
}

// lay copies the first bytes into b, which has no more places than bytes are held.
func (r *Ring) lay(b []byte) {
	k := copy(b, r.bytes[r.first:])
	copy(b[k:], r.bytes)
}

// widen makes place for n bytes. It doubles, lest many small puts copy everything each time.
func (r *Ring) widen(n int) {
	if n <= len(r.bytes) {
		return
	}
	wide := make([]byte, min(r.limit, max(n, 2*len(r.bytes))))
	r.lay(wide[:r.held])
	r.bytes, r.first = wide, 0
}

// Queue holds chunks in order.
type Queue struct {
	count
	made   bool
	chunks [][]byte
}

// NewQueue makes a queue without chunks.
func NewQueue() *Queue {
	return &Queue{made: true}
}

// Add lays a copy of b behind the last chunk. A full queue refuses even an empty b, which else leaves it as it is.
func (q *Queue) Add(b []byte) api.Errno {
	if q == nil || !q.made {
		return api.ErrZero
	}
	if len(q.chunks) >= api.MaxChunks {
		return api.ErrFull
	}
	if len(b) == 0 {
		return api.OK
	}
	c := make([]byte, len(b))
	q.held += copy(c, b)
	q.chunks = append(q.chunks, c)
	return api.OK
}

// Take answers the first n bytes of all chunks; a chunk of which nothing is left is gone.
func (q *Queue) Take(n int) []byte {
	if q == nil {
		return nil
	}
	n = q.atMost(n)
	b := make([]byte, 0, n)
	gone := 0
	for i, c := range q.chunks {
		k := min(len(c), n-len(b))
		b = append(b, c[:k:k]...)
		if k < len(c) {
			q.chunks[i] = c[k:len(c):len(c)]
			break
		}
		gone++
	}
	q.held -= n
	q.forget(gone)
	return b
}

// Len tells how many bytes all chunks have together.
func (q *Queue) Len() int {
	if q == nil {
		return 0
	}
	return q.held
}

// Chunks tells how many chunks there are.
func (q *Queue) Chunks() int {
	if q == nil {
		return 0
	}
	return len(q.chunks)
}

// forget lets the first n chunks go. They are cleared, lest the list's memory hold on to their bytes.
func (q *Queue) forget(n int) {
	clear(q.chunks[:n])
	q.chunks = q.chunks[n:]
}

package setting

// queue holds items in the order in which they came. The zero queue is empty.
type queue[T any] struct {
	items []T
}

// add lays an item behind the last one.
func (q *queue[T]) add(x T) {
	q.items = append(q.items, x)
}

// take answers the first item, which is held no more; false, if there is none.
func (q *queue[T]) take() (T, bool) {
	var none T
	if len(q.items) == 0 {
		return none, false
	}
	x := q.items[0]
	q.items[0] = none // lest the list's memory hold on to what the item has
	q.items = q.items[1:]
	return x, true
}

// length tells how many items are held.
func (q *queue[T]) length() int {
	return len(q.items)
}

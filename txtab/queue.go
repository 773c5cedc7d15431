package txtab

// queue holds things in a ring: of a table's places each stands in a queue once at most, so it never needs more room than there are places.
type queue[T any] struct {
	ring  []T
	front int
	count int
}

func newQueue[T any](room int) queue[T] { return queue[T]{ring: make([]T, room)} }

// put lays a thing at the end.
func (q *queue[T]) put(thing T) {
	q.ring[(q.front+q.count)%len(q.ring)] = thing
	q.count++
}

// first tells the thing at the front; false: there is none.
func (q *queue[T]) first() (T, bool) { return q.ring[q.front], q.count > 0 }

// drop takes out the thing at the front.
func (q *queue[T]) drop() {
	q.front = (q.front + 1) % len(q.ring)
	q.count--
}

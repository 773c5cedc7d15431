package cells

import "sync"

// freeQueue holds the free slots in a ring, which never needs more room than there are slots. Whoever calls its methods holds its lock.
type freeQueue struct {
	lock  sync.Mutex
	ring  []int
	front int
	count int
}

// fill makes a ring for the slots 1 to slots, and puts them all in.
func (q *freeQueue) fill(slots int) {
	q.ring = make([]int, slots)
	for slot := range slots {
		q.put(slot + 1)
	}
}

// take tells the front slot, no longer in the queue, or 0 if it is empty.
func (q *freeQueue) take() int {
	if q.count == 0 {
		return 0
	}
	slot := q.ring[q.front]
	q.front = (q.front + 1) % len(q.ring)
	q.count--
	return slot
}

// put lays a slot at the back.
func (q *freeQueue) put(slot int) {
	q.ring[(q.front+q.count)%len(q.ring)] = slot
	q.count++
}

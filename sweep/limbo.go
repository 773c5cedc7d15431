package sweep

import "sync"

// entry is a version that is out of both indexes, with the clock's time behind that: whoever began later can't hold it.
type entry struct {
	slot  int
	stamp uint64
}

// limbo is the queue of those that are not yet freed, and what is counted of it.
type limbo struct {
	lock                      sync.Mutex
	queue                     []entry
	accesses, unlinked, freed int
}

// counts is what is told of a limbo at one moment.
type counts struct{ accesses, waiting, unlinked, freed int }

func (l *limbo) counts() counts {
	l.lock.Lock()
	defer l.lock.Unlock()
	return counts{l.accesses, len(l.queue), l.unlinked, l.freed}
}

// enter puts a version at the back: an access.
func (l *limbo) enter(slot int, stamp uint64) {
	l.lock.Lock()
	defer l.lock.Unlock()
	l.accesses++
	l.unlinked++
	l.queue = append(l.queue, entry{slot, stamp})
}

// look takes the front one out if its stamp is below a floor: an access, whatever it finds. It answers 0 (which is no slot), if none was taken out.
func (l *limbo) look(floor uint64) int {
	l.lock.Lock()
	defer l.lock.Unlock()
	l.accesses++
	if len(l.queue) == 0 || l.queue[0].stamp >= floor {
		return 0
	}
	front := l.queue[0]
	l.queue = l.queue[1:]
	return front.slot
}

// noteFreed counts a slot that is free again: no access.
func (l *limbo) noteFreed() {
	l.lock.Lock()
	defer l.lock.Unlock()
	l.freed++
}

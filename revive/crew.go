package revive

import (
	"sync"

	"strata/bits"
)

// queue is how many pieces may wait for a worker: whoever deals them out need not wait for each.
const queue = 32

// crew is a number of workers, each a goroutine with a channel of its own.
type crew[T any] struct {
	channels []chan T
	all      sync.WaitGroup
}

// newCrew sets workers to work, each on what it is dealt.
func newCrew[T any](workers int, do func(worker int, piece T)) *crew[T] {
	c := &crew[T]{}
	for worker := range workers {
		channel := make(chan T, queue)
		c.channels = append(c.channels, channel)
		c.all.Go(func() {
			for piece := range channel {
				do(worker, piece)
			}
		})
	}
	return c
}

// deal gives a piece to the worker of its name: pieces of one name are worked off in the order in which they are dealt.
func (c *crew[T]) deal(name string, piece T) {
	c.channels[bits.Hash(name)%uint64(len(c.channels))] <- piece
}

// end waits till all pieces are worked off and all workers have ended.
func (c *crew[T]) end() {
	for _, channel := range c.channels {
		close(channel)
	}
	c.all.Wait()
}

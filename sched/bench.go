package sched

import (
	"slices"

	"strata/api"
	"strata/cells"
)

// enough is a budget for all that a bench's threads can be asked for: a step an instruction, and one of each thread that is done ahead of its first.
const enough = api.MaxInstrs + api.MaxThreads

// Bench is a litmus program laid out over an arena and a harness (P3.11).
type Bench struct {
	board   board
	threads []*Thread
	harness *Harness[*Thread]
}

// Lay lays a litmus program out (P3.11).
func Lay(l api.Litmus) (*Bench, api.Errno) {
	if !isLitmus(l) {
		return nil, api.ErrLitmus
	}
	b := new(Bench)
	b.board.arena, _ = cells.New[struct{}](1, len(l.Cells))
	b.board.slot, _ = b.board.arena.Alloc(struct{}{}, l.Cells...)
	b.harness, _ = New[*Thread](len(l.Threads))
	for i, instrs := range l.Threads {
		thread := &Thread{board: b.board, instrs: slices.Clone(instrs)}
		b.threads = append(b.threads, thread)
		b.harness.Submit(i, i, thread)
	}
	return b, api.OK
}

// Thread gives the i-th thread's machine (P3.11).
func (b *Bench) Thread(i int) *Thread {
	if b == nil || i < 0 || i >= len(b.threads) {
		return nil
	}
	return b.threads[i]
}

// Play plays a schedule (P3.11).
func (b *Bench) Play(schedule string) int {
	if b == nil {
		return 0
	}
	steps, _ := b.harness.Play(enough, Decode(schedule)...)
	return steps
}

// Outcome tells what cells and registers hold now, and whether all threads are done (P3.11).
func (b *Bench) Outcome() (api.Outcome, bool) {
	if b == nil {
		return api.Outcome{}, false
	}
	var o api.Outcome
	o.Cells, _ = b.board.arena.Peek(b.board.slot)
	for _, t := range b.threads {
		o.Regs = append(o.Regs, t.regs[:]...)
	}
	return o, b.harness.Idle()
}

// Events tells the events of the bench's harness (P3.11).
func (b *Bench) Events() []api.Event {
	if b == nil {
		return nil
	}
	return b.harness.Events()
}

// Run lays a litmus program out, plays a schedule and drains (P3.12).
func Run(l api.Litmus, schedule string) (api.Outcome, api.Errno) {
	b, e := Lay(l)
	if e != api.OK {
		return api.Outcome{}, e
	}
	b.Play(schedule)
	b.harness.Drain(enough)
	o, _ := b.Outcome()
	return o, api.OK
}

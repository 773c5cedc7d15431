package store

import (
	"errors"
	"maps"
	"slices"

	"strata/api"
	"strata/tongue"
)

// turn is a command that is played, and the replies that come up by it.
type turn struct {
	*Store
	number  int
	command api.Command
	replies []api.Reply
}

// handler plays a command of one kind: it tells the numbers of the reply, or an error.
type handler func(*turn) ([]int, error)

// handlers of all kinds of commands, by their kind.
func handlers() [api.CmCut + 1]handler {
	return [...]handler{
		api.CmStmt:       (*turn).statement,
		api.CmPlay:       (*turn).schedule,
		api.CmDrain:      (*turn).drain,
		api.CmTick:       (*turn).tick,
		api.CmFlush:      (*turn).flush,
		api.CmSync:       (*turn).sync,
		api.CmCheckpoint: (*turn).checkpoint,
		api.CmMerge:      (*turn).merge,
		api.CmCrash:      (*turn).crash,
		api.CmRestart:    (*turn).restart,
		api.CmCheck:      (*turn).check,
		api.CmCut:        (*turn).cut,
	}
}

// play plays commands in their order (P17.4).
func (s *Store) play(cs []api.Command) []api.Reply {
	var replies []api.Reply
	for _, c := range cs {
		t := turn{Store: s, number: s.count, command: c}
		s.count++
		t.take()
		replies = append(replies, t.replies...)
	}
	return replies
}

// take plays the command; its own reply comes behind all others.
func (t *turn) take() {
	numbers, err := t.handle()
	if errors.Is(err, errLater) {
		return
	}
	if isFall(err) {
		t.goDown()
	}
	own := t.slip(t.command.Kind).reply(codeOf(err))
	own.Numbers = numbers
	t.tell(own)
}

func (t *turn) handle() ([]int, error) {
	kind := t.command.Kind
	if !tongue.Valid(t.command) {
		return nil, fault{api.ErrTree}
	}
	if t.up == nil && kind != api.CmCrash && kind != api.CmRestart {
		return nil, fault{api.ErrDown}
	}
	return handlers()[kind](t)
}

// slip is this command's, for a reply of a kind.
func (t *turn) slip(kind int) slip {
	s := slip{command: t.number, kind: kind}
	if kind == api.CmStmt {
		s.who = t.command.Who
	}
	return s
}

func (t *turn) tell(r api.Reply) { t.replies = append(t.replies, r) }

// handIn gives a worker something to play; its reply comes when it is done.
func (t *turn) handIn(worker int, w work) error {
	if code := t.up.harness.Submit(worker, t.number, w); code != api.OK {
		return fault{code}
	}
	t.up.waiting[t.number] = append(t.up.waiting[t.number], w)
	return errLater
}

// tellEnded tells of all that has ended, in that order.
func (t *turn) tellEnded() {
	for _, w := range t.up.harness.Take() {
		r := replyOf(w)
		t.tell(r)
		t.up.drop(r.Command)
	}
}

// drop forgets a work of a command that has ended: those of one command stand in one queue, so it is the first.
func (l *life) drop(command int) {
	if rest := l.waiting[command][1:]; len(rest) > 0 {
		l.waiting[command] = rest
	} else {
		delete(l.waiting, command)
	}
}

// goDown takes the store down: what is not done is lost (P17.8, P17.10).
func (t *turn) goDown() {
	if t.up == nil {
		return
	}
	for _, command := range slices.Sorted(maps.Keys(t.up.waiting)) {
		for _, w := range t.up.waiting[command] {
			t.tell(w.lost())
		}
	}
	t.up = nil
}

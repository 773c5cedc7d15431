package store

import (
	"strata/api"
	"strata/engine"
	"strata/plan"
	"strata/sched"
)

// work is what a worker plays: a statement of a session, or a tick of the collector's.
type work interface {
	sched.Machine
	lost() api.Reply // where the store goes down ahead of its end
}

// slip says which command has handed a work in.
type slip struct{ command, kind, who int }

func (s slip) reply(code api.Errno) api.Reply {
	return api.Reply{Command: s.command, Kind: s.kind, Who: s.who, Code: code}
}

func (s slip) lost() api.Reply { return s.reply(api.ErrDown) }

// statement plays one of a session.
type statement struct {
	slip
	*plan.Run
}

// tick plays a collect in the collector's session.
type tick struct {
	slip
	engine  *engine.Engine
	session int
	buckets int
	begun   bool
	done    bool
	answer  api.Answer
}

// Step goes on by at most one access; true: done.
func (k *tick) Step() bool {
	if !k.begun {
		k.begun = true
		if code := k.engine.Start(k.session, api.Call{Kind: api.CallCollect, Count: k.buckets}); code != api.OK {
			k.finish(api.Answer{}, code)
		}
	}
	if k.done {
		return true
	}
	if done, _ := k.engine.Step(k.session); done {
		k.finish(k.engine.Take(k.session))
	}
	return k.done
}

// finish keeps the answer; a call that was refused, or whose answer is not there, has the error of that.
func (k *tick) finish(a api.Answer, code api.Errno) {
	if code != api.OK {
		a = api.Answer{Code: code}
	}
	k.answer, k.done = a, true
}

// replyOf tells the reply of a work that has ended.
func replyOf(w work) api.Reply {
	var r api.Reply
	switch x := w.(type) {
	case *statement:
		result := x.Result()
		r = x.reply(result.Code)
		r.Result = result
	case *tick:
		r = x.reply(x.answer.Code)
		if r.Code == api.OK {
			r.Numbers = []int{x.answer.Count}
		}
	}
	return r
}

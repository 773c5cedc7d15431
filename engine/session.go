package engine

import (
	"math"

	"strata/api"
	"strata/ladder"
)

// session is one client's line of calls.
type session struct {
	transaction
	errand
	engine *Engine
	number int
	hand   int // the bucket that it sweeps next
}

// errand is the call that a session has, and how far it is.
type errand struct {
	course
	asked   api.Call // its kind is 0: the session has none
	came    int      // the event of its Start
	done    bool
	answer  api.Answer
	next    func() // what the call does behind what it shares with other calls: behind its timestamp, a version that was found, locked, made
	at      uint64 // the timestamp at which it looks
	opened  int    // dependencies that were open when it was asked last
	record  int    // the number of a record that has no begin yet
	floor   uint64 // below it records are freed, to make room for another
	freed   bool   // the last try to free one has
	slot    int    // the version that it has found, or made
	entry   api.Entry
	walk    *ladder.Walk[api.Entry]
	seen    []api.Ver // of a scan, as the history tells them
	left    int       // passes that are still to be made
	verdict api.Errno // what the call that ends the transaction will answer
}

// isKey tells whether a text may be a key.
func isKey(key string) bool { return len(key) >= 1 && len(key) <= api.MaxKey }

// isData tells whether a text may be data.
func isData(data string) bool { return len(data) <= api.MaxData }

// worded tells whether the texts of a call may be.
func worded(c api.Call) bool {
	switch c.Kind {
	case api.CallGet, api.CallDelete:
		return isKey(c.Key)
	case api.CallInsert, api.CallUpdate:
		return isKey(c.Key) && isData(c.Data)
	case api.CallScan:
		return len(c.Key) <= api.MaxKey && len(c.High) <= api.MaxKey
	}
	return true
}

// counted tells whether the numbers of a call may be.
func (s *session) counted(c api.Call) bool {
	switch c.Kind {
	case api.CallBegin:
		return c.Iso >= api.ReadCommitted && c.Iso <= api.Serializable
	case api.CallCollect:
		return c.Count >= 1 && c.Count <= s.engine.buckets
	}
	return true
}

// has tells whether the session has a call.
func (s *session) has() bool { return s.asked.Kind != 0 }

// refusal tells why a call may not be started.
func (s *session) refusal(c api.Call) api.Errno {
	switch {
	case s.has():
		return api.ErrBusy
	case c.Kind < api.CallBegin || c.Kind > api.CallCollect:
		return api.ErrCall
	case !s.counted(c):
		return api.ErrArg
	case !worded(c):
		return api.ErrKey
	case c.Kind == api.CallCollect:
		return api.OK
	case c.Kind == api.CallBegin && s.open:
		return api.ErrOpenTx
	case c.Kind != api.CallBegin && !s.open:
		return api.ErrNoTx
	}
	return api.OK
}

// works tells what the calls are made of, by their kinds.
func works() [api.CallCollect + 1]func(*session) {
	return [...]func(*session){
		api.CallBegin:   (*session).enter,
		api.CallGet:     (*session).get,
		api.CallInsert:  (*session).insert,
		api.CallUpdate:  (*session).update,
		api.CallDelete:  (*session).remove,
		api.CallScan:    (*session).scan,
		api.CallCommit:  (*session).commit,
		api.CallAbort:   (*session).abort,
		api.CallCollect: (*session).collect,
	}
}

// Start gives a session a call; it runs by steps (P10.2).
func (e *Engine) Start(session int, c api.Call) api.Errno {
	s, fault := e.session(session)
	if fault != api.OK {
		return fault
	}
	if fault = s.refusal(c); fault != api.OK {
		return fault
	}
	s.errand = errand{asked: c, came: e.book.event()}
	works()[c.Kind](s)
	return api.OK
}

// Step goes on with a session's call by at most one access; true: it is done, or the session has none (P10.3).
func (e *Engine) Step(session int) (bool, api.Errno) {
	s, fault := e.session(session)
	if fault != api.OK {
		return false, fault
	}
	s.step()
	return !s.busy(), api.OK
}

// Run goes on with a session's call to its end, at most so many steps; true: it is done.
func (e *Engine) Run(session, most int) (bool, api.Errno) {
	s, fault := e.session(session)
	if fault != api.OK {
		return false, fault
	}
	// A commit that waits for another session would be stepped for ever: no more steps are made than the program is good for in all.
	for range min(most, math.MaxInt32) {
		if !s.busy() {
			break
		}
		s.step()
	}
	return !s.busy(), api.OK
}

// Busy tells whether a session's call is not done.
func (e *Engine) Busy(session int) bool {
	s, fault := e.session(session)
	return fault == api.OK && s.busy()
}

// Open tells whether a session has a transaction.
func (e *Engine) Open(session int) bool {
	s, fault := e.session(session)
	return fault == api.OK && s.open
}

// Take hands out the answer of a session's last call, once (P10.4).
func (e *Engine) Take(session int) (api.Answer, api.Errno) {
	s, fault := e.session(session)
	switch {
	case fault != api.OK:
		return api.Answer{}, fault
	case s.busy():
		return api.Answer{}, api.ErrBusy
	case !s.has():
		return api.Answer{}, api.ErrState
	}
	told := s.answer
	s.errand = errand{}
	return told, api.OK
}

// Calls runs calls of one session to their ends, one behind the other, and tells their answers (P10.4).
func (e *Engine) Calls(session int, cs ...api.Call) ([]api.Answer, api.Errno) {
	if _, fault := e.session(session); fault != api.OK {
		return nil, fault
	}
	var told []api.Answer
	for _, c := range cs {
		if fault := e.Start(session, c); fault != api.OK {
			return told, fault
		}
		e.Run(session, api.MaxRun)
		a, fault := e.Take(session)
		if fault != api.OK {
			return told, fault
		}
		told = append(told, a)
	}
	return told, api.OK
}

// busy tells whether the session has a call that is not done.
func (s *session) busy() bool { return s.has() && !s.done }

// step goes on with the call till it has made one access: what needs none costs no step (P0.2).
func (s *session) step() {
	for before := s.engine.Accesses(); s.busy() && s.engine.Accesses() == before; {
		s.advance()
	}
}

// advance goes on with the call by a step of its part. What ends the transaction is caught here, wherever it came up.
func (s *session) advance() {
	defer func() {
		switch thrown := recover().(type) {
		case nil:
		case ending:
			s.undo(thrown.code)
		default:
			panic(thrown)
		}
	}()
	s.drive()
}

// finish ends the call.
func (s *session) finish(code api.Errno) {
	s.halt()
	s.answer.Code = code
	s.done = true
	s.engine.book.event()
}

// access leaves the next step to one access whose error ends the transaction.
func (s *session) access(reach func() api.Errno, then func()) { s.run(&single{reach: reach}, then) }

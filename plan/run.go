package plan

import (
	"slices"

	"strata/api"
	"strata/engine"
)

// Run is the machine of one statement of a session (P16.10).
type Run struct {
	engine  *engine.Engine
	session int
	stmt    api.Stmt // its kind is 0: what was handed in is no statement
	begun   bool
	done    bool
	alone   bool // it has begun its transaction itself, or would have
	held    bool // there was a transaction
	commits bool // which it has committed
	follow  func(api.Answer) error
	table   api.Table
	result  api.Result
}

// Step goes on by at most one access; true: done. What needs no access costs no step (P0.2).
func (r *Run) Step() bool {
	if r.missing() {
		return true
	}
	before := r.engine.Accesses()
	if !r.begun {
		r.begun = true
		r.goOn(r.begin())
	}
	for !r.done && r.engine.Accesses() == before {
		r.advance()
	}
	return r.done
}

// Result tells the answer of a done one.
func (r *Run) Result() api.Result {
	switch {
	case r.missing():
		return api.Result{Code: api.ErrNil}
	case !r.done:
		return api.Result{}
	}
	told := r.result
	told.Names = slices.Clone(told.Names)
	told.Rows = nil
	for _, row := range r.result.Rows {
		told.Rows = append(told.Rows, slices.Clone(row))
	}
	return told
}

// missing tells whether no NewRun has made it.
func (r *Run) missing() bool { return r == nil || r.engine == nil }

// within makes so many steps at most; true: it is done.
func (r *Run) within(steps int) bool {
	for range steps {
		if r.Step() {
			return true
		}
	}
	return false
}

// readiness tells whether a session may be given a call; one that is none is refused, behind what is asked here, and changes nothing.
func readiness(e *engine.Engine, session int) api.Errno {
	if code := e.Start(session, api.Call{}); code != api.ErrCall {
		return code
	}
	return api.OK
}

// begin decides what the statement does, by what is then.
func (r *Run) begin() error {
	if r.stmt.Kind == 0 {
		return r.finish(api.ErrTree)
	}
	if code := readiness(r.engine, r.session); code != api.OK {
		return r.finish(code)
	}
	r.held = r.engine.Open(r.session)
	r.alone = !r.held
	return works()[r.stmt.Kind](r)
}

// advance makes a step of the call that is at work; where it is done follows what it was for.
func (r *Run) advance() {
	if done, _ := r.engine.Step(r.session); !done {
		return
	}
	a, code := r.engine.Take(r.session)
	if code != api.OK {
		a = api.Answer{Code: code}
	}
	r.goOn(r.follow(a))
}

// goOn ends the statement, if it was refused or has failed.
func (r *Run) goOn(err error) {
	if err == nil {
		return
	}
	r.result = api.Result{}
	end := func(api.Answer) error { return r.finish(codeOf(err)) }
	if isRefusal(err) && !r.alone {
		end(api.Answer{})
		return
	}
	r.ask(api.Call{Kind: api.CallAbort}, end)
}

// finish ends the machine; of a done one nothing is asked but its result.
func (r *Run) finish(code api.Errno) error {
	r.done = true
	r.stmt, r.table, r.follow = api.Stmt{}, api.Table{}, nil
	r.result.Code = code
	switch {
	case r.commits:
		r.result.End = api.EndCommit
	case r.held && !r.engine.Open(r.session):
		r.result.End = api.EndAbort
	}
	return nil
}

// ask gives the session a call, and keeps what follows its answer; a call that is refused has its answer at once.
func (r *Run) ask(c api.Call, follow func(api.Answer) error) error {
	if code := r.engine.Start(r.session, c); code != api.OK {
		return follow(api.Answer{Code: code})
	}
	r.follow = follow
	return nil
}

// need gives the session a call that has to be answered OK, or by an error that is expected: by any other one the statement fails.
func (r *Run) need(c api.Call, follow func(api.Answer) error, expected ...api.Errno) error {
	return r.ask(c, func(a api.Answer) error {
		if a.Code != api.OK && !slices.Contains(expected, a.Code) {
			return fault{a.Code}
		}
		return follow(a)
	})
}

// inside does a work in a transaction: the session's, or one that it begins.
func (r *Run) inside(work func() error) error {
	if !r.alone {
		return work()
	}
	return r.need(api.Call{Kind: api.CallBegin, Iso: api.Snapshot}, func(api.Answer) error {
		r.held = true
		return work()
	})
}

// leave ends a statement that went well: one that stands alone is committed.
func (r *Run) leave() error {
	if !r.alone {
		return r.finish(api.OK)
	}
	return r.need(api.Call{Kind: api.CallCommit}, r.committed)
}

func (r *Run) committed(a api.Answer) error {
	r.commits = true
	r.result.Stamp = a.Stamp
	return r.finish(api.OK)
}

// play makes calls, one behind the other, and counts those that were answered OK.
func (r *Run) play(calls []api.Call, then func(good int) error, expected ...api.Errno) error {
	at, good := 0, 0
	var next func() error
	next = func() error {
		if at == len(calls) {
			return then(good)
		}
		at++
		return r.need(calls[at-1], func(a api.Answer) error {
			if a.Code == api.OK {
				good++
			}
			return next()
		}, expected...)
	}
	return next()
}

// leaveWith ends a statement that went well, with a count.
func (r *Run) leaveWith(count int) error {
	r.result.Count = count
	return r.leave()
}

// copyOf makes a statement that shares no list with another one.
func copyOf(s api.Stmt) api.Stmt {
	s.Cols, s.Key, s.Names = slices.Clone(s.Cols), slices.Clone(s.Key), slices.Clone(s.Names)
	s.Where, s.Order = slices.Clone(s.Where), slices.Clone(s.Order)
	s.Items = slices.Clone(s.Items)
	for i := range s.Items {
		s.Items[i].Of = slices.Clone(s.Items[i].Of)
	}
	s.Rows = slices.Clone(s.Rows)
	for i, row := range s.Rows {
		s.Rows[i] = slices.Clone(row)
		for j, e := range row {
			s.Rows[i][j] = slices.Clone(e)
		}
	}
	return s
}

package store_test

import (
	"slices"
	"sort"

	"strata/adya"
	"strata/api"
	"strata/engine"
	"strata/image"
	"strata/plan"
	"strata/redo"
	"strata/revive"
	"strata/tongue"
)

// plain_test.go: the chapter written down plainly a second time: queues in lists, the schedule read byte by byte, the layers below called as the chapter's sentences name them.

// job is what a worker has to do.
type job struct {
	command, kind, who int
	run                *plan.Run // of a statement
	num                int       // of a tick
	begun              bool
	answer             api.Answer
}

// plain is a store.
type plain struct {
	setup   api.Setup
	device  *redo.Device
	count   int
	isUp    bool
	engine  *engine.Engine
	log     *redo.Log
	image   *image.Image
	queues  [][]*job
	ended   []*job
	read    int          // entries of the engine's log
	logged  []api.Logged // what the log has had since the store's start, and then
	replies []api.Reply
}

// plainUnfit is P17.1's list.
func plainUnfit(s api.Setup) bool {
	if s.Engine.Sessions < 1 || s.Engine.Sessions > 14 || s.Workers < 1 || s.Workers > 16 {
		return true
	}
	c := s.Engine
	c.Sessions++
	if _, code := engine.New(c); code != api.OK {
		return true
	}
	d, code := redo.NewDevice(s.Device)
	if code != api.OK {
		return true
	}
	if _, code = image.New(s.Limit); code != api.OK {
		return true
	}
	_, _, code = redo.Open(d, api.LogOptions{Segment: s.Segment, Batch: s.Batch})
	return code != api.OK
}

func newPlain(s api.Setup) (*plain, api.Errno) {
	if plainUnfit(s) {
		return nil, api.ErrUnfit
	}
	p := &plain{setup: s, isUp: true}
	p.device, _ = redo.NewDevice(s.Device)
	c := s.Engine
	c.Sessions++
	p.engine, _ = engine.New(c)
	p.image, _ = image.New(s.Limit)
	p.log, _, _ = redo.Open(p.device, api.LogOptions{Segment: s.Segment, Batch: s.Batch})
	p.queues = make([][]*job, c.Sessions)
	return p, api.OK
}

func openPlain(s api.Setup, d *redo.Device) (*plain, api.Errno) {
	if d == nil {
		return nil, api.ErrNil
	}
	if plainUnfit(s) {
		return nil, api.ErrUnfit
	}
	p := &plain{setup: s, device: d.Copy()}
	_, code := p.comeBack()
	if code != api.OK {
		return nil, code
	}
	return p, api.OK
}

// comeBack is P17.9 behind its first sentence.
func (p *plain) comeBack() ([]int, api.Errno) {
	state, code := revive.Recover(p.device, p.setup.Workers)
	if code != api.OK {
		return nil, code
	}
	if _, code = image.Clean(p.device); code != api.OK {
		return nil, code
	}
	im, code := image.Resume(p.setup.Limit, image.Files(p.device))
	if code != api.OK {
		return nil, code
	}
	c := p.setup.Engine
	c.Sessions++
	if state.Clock > c.Clock {
		c.Clock = state.Clock
	}
	e, code := engine.New(c, state.Rows...)
	if code != api.OK {
		return nil, code
	}
	ahead, _, _ := redo.Replay(p.device)
	l, _, code := redo.Open(p.device, api.LogOptions{Segment: p.setup.Segment, Batch: p.setup.Batch, First: state.Next})
	if code != api.OK {
		return nil, code
	}
	for _, x := range ahead {
		if x.Commit.Stamp > im.Upto() {
			if _, code = im.Absorb(x.Commit); code != api.OK {
				return nil, code
			}
		}
	}
	p.engine, p.image, p.log, p.isUp = e, im, l, true
	p.queues, p.ended, p.read, p.logged = make([][]*job, c.Sessions), nil, 0, ahead
	return []int{len(state.Rows), state.Played, state.Tail, int(c.Clock)}, api.OK
}

// play plays commands and tells their replies.
func (p *plain) play(cs ...api.Command) []api.Reply {
	p.replies = nil
	for _, c := range cs {
		own := api.Reply{Command: p.count, Kind: c.Kind}
		if c.Kind == api.CmStmt {
			own.Who = c.Who
		}
		p.count++
		later := false
		switch {
		case !tongue.Valid(c):
			own.Code = api.ErrTree
		case !p.isUp && c.Kind != api.CmCrash && c.Kind != api.CmRestart:
			own.Code = api.ErrDown
		default:
			own.Numbers, own.Code, later = p.command(own.Command, c)
		}
		if !later {
			p.replies = append(p.replies, own)
		}
	}
	return p.replies
}

// command plays one that may be played; true: its reply comes later.
func (p *plain) command(number int, c api.Command) (numbers []int, code api.Errno, later bool) {
	switch c.Kind {
	case api.CmStmt:
		if c.Who < 1 || c.Who > p.setup.Engine.Sessions {
			return nil, api.ErrSession, false
		}
		return p.handIn(c.Who-1, &job{command: number, kind: c.Kind, who: c.Who, run: plan.NewRun(p.engine, c.Who-1, c.Stmt)})
	case api.CmTick:
		if c.Num < 1 || c.Num > p.setup.Engine.Buckets {
			return nil, api.ErrArg, false
		}
		return p.handIn(len(p.queues)-1, &job{command: number, kind: c.Kind, num: c.Num})
	case api.CmPlay:
		numbers, code = p.picks(number, c.Bytes)
	case api.CmDrain:
		numbers, code = p.picks(number, "\xa0")
	case api.CmFlush:
		if code = p.log.Flush(); code != api.OK {
			p.goDown()
		}
	case api.CmSync:
		numbers, code = p.sync()
	case api.CmCut:
		code = p.device.Cut(c.Num)
	case api.CmCheckpoint:
		numbers, code = p.checkpoint()
	case api.CmMerge:
		code = p.image.Merge(c.Num)
	case api.CmCheck:
		var shown []api.Phen
		shown, code = adya.Phenomena(p.engine.History())
		for _, x := range shown {
			numbers = append(numbers, int(x))
		}
	case api.CmCrash:
		p.goDown()
		if len(c.Keep) == 0 {
			code = p.device.Crash(0)
		} else {
			code = p.device.Crash(c.Keep[0], c.Keep[1:]...)
		}
	case api.CmRestart:
		p.goDown()
		numbers, code = p.comeBack()
	}
	return numbers, code, false
}

func (p *plain) handIn(worker int, j *job) ([]int, api.Errno, bool) {
	if len(p.queues[worker]) == 64 {
		return nil, api.ErrQueue, false
	}
	p.queues[worker] = append(p.queues[worker], j)
	return nil, api.OK, true
}

// goDown loses all that is not done.
func (p *plain) goDown() {
	if !p.isUp {
		return
	}
	var lost []api.Reply
	for _, queue := range p.queues {
		for _, j := range queue {
			lost = append(lost, api.Reply{Command: j.command, Kind: j.kind, Who: j.who, Code: api.ErrDown})
		}
	}
	sort.SliceStable(lost, func(i, j int) bool { return lost[i].Command < lost[j].Command })
	p.replies = append(p.replies, lost...)
	p.isUp, p.engine, p.log, p.image, p.queues = false, nil, nil, nil, nil
}

// step makes a step of a worker; true: its job is done.
func (p *plain) step(worker int) bool {
	j := p.queues[worker][0]
	done := false
	if j.run != nil {
		done = j.run.Step()
	} else {
		done = p.collect(worker, j)
	}
	if done {
		p.queues[worker] = p.queues[worker][1:]
		p.ended = append(p.ended, j)
	}
	return done
}

// collect makes a step of a tick.
func (p *plain) collect(session int, j *job) bool {
	if !j.begun {
		j.begun = true
		if code := p.engine.Start(session, api.Call{Kind: api.CallCollect, Count: j.num}); code != api.OK {
			j.answer.Code = code
			return true
		}
	}
	p.engine.Step(session)
	if p.engine.Busy(session) {
		return false
	}
	a, code := p.engine.Take(session)
	if code != api.OK {
		a.Code = code
	}
	j.answer = a
	return true
}

// picks plays a schedule, with at most 20000 steps; then what follows CmPlay and CmDrain.
func (p *plain) picks(number int, schedule string) ([]int, api.Errno) {
	made, over := 0, false
	step := func(worker int) (done bool) {
		if worker >= len(p.queues) || len(p.queues[worker]) == 0 {
			return true
		}
		if made == 20000 {
			over = true
			return true
		}
		made++
		return p.step(worker)
	}
	round := func() {
		for worker := range p.queues {
			if !over {
				step(worker)
			}
		}
	}
	for at := 0; at < len(schedule) && !over; at++ {
		what, n := schedule[at]/32, int(schedule[at]%32)
		switch {
		case what == 0:
			step(n)
		case what == 1 && at+1 < len(schedule):
			at++
			for i := 0; i <= int(schedule[at]) && !over; i++ {
				step(n)
			}
		case what == 2:
			p.handIn(len(p.queues)-1, &job{command: number, kind: api.CmTick, num: 1})
		case what == 3:
			for i := 0; i <= n && !over; i++ {
				round()
			}
		case what == 4:
			for !step(n) {
			}
		case schedule[at] == 160:
			for !over && slices.ContainsFunc(p.queues, func(queue []*job) bool { return len(queue) > 0 }) {
				round()
			}
		}
	}
	if code := p.behindPlay(); code != api.OK {
		return nil, code
	}
	if over {
		return []int{made}, api.ErrBudget
	}
	return []int{made}, api.OK
}

// behindPlay tells what has ended, and hands the commits on; an error: the store has fallen.
func (p *plain) behindPlay() api.Errno {
	for _, j := range p.ended {
		r := api.Reply{Command: j.command, Kind: j.kind, Who: j.who}
		if j.run != nil {
			r.Result = j.run.Result()
			r.Code = r.Result.Code
		} else if r.Code = j.answer.Code; r.Code == api.OK {
			r.Numbers = []int{j.answer.Count}
		}
		p.replies = append(p.replies, r)
	}
	p.ended = nil
	for _, c := range p.engine.Commits(0)[p.read:] {
		lsn, code := p.log.Append(c)
		if code == api.OK {
			_, code = p.image.Absorb(c)
		}
		if code != api.OK {
			p.goDown()
			return code
		}
		p.read++
		p.logged = append(p.logged, api.Logged{Lsn: lsn, Commit: c})
	}
	return api.OK
}

// sync tells the stamps of what is acknowledged, as the device holds them.
func (p *plain) sync() ([]int, api.Errno) {
	numbers, code := p.log.Sync()
	if code != api.OK {
		p.goDown()
		return nil, code
	}
	var stamps []int
	c := p.device.Copy()
	c.Crash(0)
	kept, _, _ := redo.Replay(c)
	for _, x := range kept {
		if slices.Contains(numbers, x.Lsn) {
			stamps = append(stamps, int(x.Commit.Stamp))
		}
	}
	return stamps, code
}

// checkpoint is P17.5.
func (p *plain) checkpoint() ([]int, api.Errno) {
	falls := func(code api.Errno) ([]int, api.Errno) {
		p.goDown()
		return nil, code
	}
	if _, code := p.log.Sync(); code != api.OK {
		return falls(code)
	}
	upto := p.engine.Floor()
	if upto > api.MaxTime {
		upto = api.MaxTime
	}
	if p.image.Upto() > upto {
		upto = p.image.Upto()
	}
	files, code := p.image.Close(upto)
	if code != api.OK {
		return nil, code
	}
	saver, code := image.NewSaver(p.device, files)
	if code != api.OK {
		return falls(code)
	}
	for !saver.Step() {
	}
	if code = saver.Code(); code != api.OK {
		return falls(code)
	}
	if upto > 0 {
		if code = p.log.Mark(upto); code != api.OK {
			return falls(code)
		}
		if _, code = p.log.Sync(); code != api.OK {
			return falls(code)
		}
	}
	n := uint64(0)
	for _, x := range p.logged {
		if x.Commit.Stamp > upto {
			break
		}
		n = x.Lsn
	}
	trimmed, code := p.log.Trim(n)
	if code != api.OK {
		return falls(code)
	}
	cleaned, code := image.Clean(p.device)
	if code != api.OK {
		return falls(code)
	}
	return []int{int(upto), len(files), trimmed, cleaned}, api.OK
}

func (p *plain) rows() []api.Row {
	if !p.isUp {
		return nil
	}
	return p.engine.Rows()
}

package store

import (
	"strata/adya"
	"strata/api"
	"strata/plan"
	"strata/sched"
)

// statement hands one in to its session's worker.
func (t *turn) statement() ([]int, error) {
	if t.command.Who < 1 || t.command.Who > t.setup.Engine.Sessions {
		return nil, fault{api.ErrSession}
	}
	session := t.command.Who - 1
	run := plan.NewRun(t.up.engine, session, t.command.Stmt)
	return nil, t.handIn(session, &statement{t.slip(api.CmStmt), run})
}

// tick hands a collect in to the last worker, the collector.
func (t *turn) tick() ([]int, error) {
	if t.command.Num < 1 || t.command.Num > t.setup.Engine.Buckets {
		return nil, fault{api.ErrArg}
	}
	return nil, t.collect(t.command.Num)
}

func (t *turn) collect(buckets int) error {
	last := t.setup.Engine.Sessions
	return t.handIn(last, &tick{slip: t.slip(api.CmTick), engine: t.up.engine, session: last, buckets: buckets})
}

func (t *turn) schedule() ([]int, error) { return t.picks(sched.Decode(t.command.Bytes)...) }

func (t *turn) drain() ([]int, error) { return t.picks(api.Pick{Kind: api.PickDrain}) }

// picks plays them; what has ended then is told, what has committed is kept.
func (t *turn) picks(list ...api.Pick) ([]int, error) {
	steps, err := t.steps(list)
	t.tellEnded()
	if kept := t.up.keep(); kept != nil {
		return nil, fall{kept}
	}
	return []int{steps}, err
}

// steps makes as many steps as may be; a tick that the queue does not hold is passed over.
func (t *turn) steps(list []api.Pick) (int, error) {
	made := 0
	for _, p := range list {
		if p.Kind == api.PickTick {
			t.collect(1)
			continue
		}
		n, code := t.up.harness.Play(api.MaxPlay-made, p)
		made += n
		if code != api.OK {
			return made, fault{code}
		}
	}
	return made, nil
}

func (t *turn) flush() ([]int, error) {
	if code := t.up.log.Flush(); code != api.OK {
		return nil, fall{fault{code}}
	}
	return nil, nil
}

func (t *turn) sync() ([]int, error) {
	stamps, err := t.up.sync()
	if err != nil {
		return nil, fall{err}
	}
	return stamps, nil
}

func (t *turn) cut() ([]int, error) { return nil, faultOf(t.device.Cut(t.command.Num)) }

func (t *turn) merge() ([]int, error) { return nil, faultOf(t.up.image.Merge(t.command.Num)) }

// check tells the phenomena that the engine's history shows (P17.7).
func (t *turn) check() ([]int, error) {
	shown, err := asked(adya.Phenomena(t.up.engine.History()))
	var numbers []int
	for _, p := range shown {
		numbers = append(numbers, int(p))
	}
	return numbers, err
}

// crash loses what is not done, and of the device what is not kept (P17.8).
func (t *turn) crash() ([]int, error) {
	t.goDown()
	changes, bytes := 0, []int(nil)
	if keep := t.command.Keep; len(keep) > 0 {
		changes, bytes = keep[0], keep[1:]
	}
	return nil, faultOf(t.device.Crash(changes, bytes...))
}

// restart brings the store up again from what its device holds (P17.9).
func (t *turn) restart() ([]int, error) {
	t.goDown()
	return t.rise()
}

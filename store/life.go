package store

import (
	"strata/api"
	"strata/engine"
	"strata/image"
	"strata/redo"
	"strata/revive"
	"strata/sched"
)

// life is what a store has while it is up.
type life struct {
	engine  *engine.Engine
	log     *redo.Log
	image   *image.Image
	harness *sched.Harness[work]
	waiting map[int][]work // what is not done, by the numbers of its commands
	taken   int            // so many of the engine's commits are in the log
	commits []entry        // those of the log, in their order
}

// entry of the log: the number and the stamp of a commit.
type entry struct{ lsn, stamp uint64 }

// fresh makes a store on a new device: whether a setup may be shows by that alone (P17.1).
func fresh(setup api.Setup) (*Store, error) {
	unfit := fault{api.ErrUnfit}
	if setup.Engine.Sessions < 1 || setup.Engine.Sessions > api.MaxSessions-1 {
		return nil, unfit
	}
	device, code := redo.NewDevice(setup.Device)
	if code != api.OK {
		return nil, unfit
	}
	s := &Store{setup: setup, device: device}
	if _, err := s.rise(); err != nil {
		return nil, unfit
	}
	return s, nil
}

// rise brings a store up by what its device holds, and tells the numbers of that (P17.9).
func (s *Store) rise() ([]int, error) {
	state, err := asked(revive.Recover(s.device, s.setup.Workers))
	if err != nil {
		return nil, err
	}
	if _, err = asked(image.Clean(s.device)); err != nil {
		return nil, err
	}
	l := &life{waiting: map[int][]work{}}
	if l.image, err = asked(image.Resume(s.setup.Limit, image.Files(s.device))); err != nil {
		return nil, err
	}
	config := s.setup.Engine
	config.Sessions++ // the collector's
	config.Clock = max(config.Clock, state.Clock)
	if l.engine, err = asked(engine.New(config, state.Rows...)); err != nil {
		return nil, err
	}
	if err = l.open(s.device, api.LogOptions{Segment: s.setup.Segment, Batch: s.setup.Batch, First: state.Next}); err != nil {
		return nil, err
	}
	if l.harness, err = asked(sched.New[work](config.Sessions)); err != nil {
		return nil, err
	}
	s.up = l
	return []int{len(state.Rows), state.Played, state.Tail, int(config.Clock)}, nil
}

// open opens the log; what it held ahead of that goes on in the image, as far as no checkpoint has it.
func (l *life) open(d *redo.Device, o api.LogOptions) error {
	found, _, _ := redo.Replay(d)
	log, _, code := redo.Open(d, o)
	if code != api.OK {
		return fault{code}
	}
	l.log = log
	for _, x := range found {
		l.commits = append(l.commits, entry{x.Lsn, x.Commit.Stamp})
		if x.Commit.Stamp <= l.image.Upto() {
			continue
		}
		if _, code := l.image.Absorb(x.Commit); code != api.OK {
			return fault{code}
		}
	}
	return nil
}

// keep hands on what the engine has logged since: to the log and to the image.
func (l *life) keep() error {
	for _, c := range l.engine.Commits(l.taken) {
		lsn, code := l.log.Append(c)
		if code != api.OK {
			return fault{code}
		}
		if _, code = l.image.Absorb(c); code != api.OK {
			return fault{code}
		}
		l.taken++
		l.commits = append(l.commits, entry{lsn, c.Stamp})
	}
	return nil
}

// sync makes the log durable and tells the stamps of the commits that are newly so: the last ones, since a sync leaves none behind.
func (l *life) sync() ([]int, error) {
	lsns, code := l.log.Sync()
	if code != api.OK {
		return nil, fault{code}
	}
	var stamps []int
	for _, c := range l.commits[len(l.commits)-len(lsns):] {
		stamps = append(stamps, int(c.stamp))
	}
	return stamps, nil
}

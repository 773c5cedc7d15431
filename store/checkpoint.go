package store

import (
	"slices"

	"strata/api"
	"strata/image"
	"strata/redo"
)

// checkpoint makes all that is committed durable in the log, then lays down what nobody at work can change any more, then removes what is not needed behind that (P17.5).
func (t *turn) checkpoint() ([]int, error) {
	if _, err := t.up.sync(); err != nil {
		return nil, fall{err}
	}
	upto := max(min(t.up.engine.Floor(), api.MaxTime), t.up.image.Upto())
	files, code := t.up.image.Close(upto)
	if code != api.OK {
		return nil, fault{code}
	}
	segments, cleaned, err := t.up.secure(t.device, files, upto)
	if err != nil {
		return nil, fall{err}
	}
	return []int{int(upto), len(files), segments, cleaned}, nil
}

// secure saves a checkpoint's files; only when these count, and the log says so, goes what they stand for.
func (l *life) secure(d *redo.Device, files []api.File, upto uint64) (segments, cleaned int, err error) {
	if err = save(d, files); err != nil {
		return 0, 0, err
	}
	if err = l.mark(upto); err != nil {
		return 0, 0, err
	}
	if segments, err = asked(l.log.Trim(l.behind(upto))); err != nil {
		return 0, 0, err
	}
	cleaned, err = asked(image.Clean(d))
	return segments, cleaned, err
}

func save(d *redo.Device, files []api.File) error {
	saver, code := image.NewSaver(d, files)
	if code != api.OK {
		return fault{code}
	}
	for !saver.Step() {
	}
	return faultOf(saver.Code())
}

// mark notes in the log, durably, that there is a checkpoint up to then: what is trimmed is missed if that is lost.
func (l *life) mark(upto uint64) error {
	if upto == 0 {
		return nil
	}
	if code := l.log.Mark(upto); code != api.OK {
		return fault{code}
	}
	_, err := l.sync()
	return err
}

// behind tells the number of the last commit of the log ahead of all that the checkpoint does not hold; 0: there is none. Those ahead of it are never asked for again: upto does not fall.
func (l *life) behind(upto uint64) uint64 {
	n := 0
	for n < len(l.commits) && l.commits[n].stamp <= upto {
		n++
	}
	if n == 0 {
		return 0
	}
	l.commits = slices.Delete(l.commits, 0, n-1)
	return l.commits[0].lsn
}

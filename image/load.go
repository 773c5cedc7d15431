package image

import (
	"slices"

	"strata/api"
)

// Load reads the newest whole checkpoint out of files (P12.9).
func Load(fs []api.File) ([]api.Row, api.Manifest, api.Errno) {
	c, e := newest(fs)
	return c.rows(), c.manifest, e
}

// Resume makes an image that goes on behind a restart (P12.10).
func Resume(fill int, fs []api.File) (*Image, api.Errno) {
	im, e := New(fill)
	if e != api.OK {
		return nil, e
	}
	c, e := newest(fs)
	if e != api.OK {
		return nil, e
	}
	im.stock, im.upto = c.stock, c.manifest.Upto
	im.next = max(im.next, c.manifest.Next)
	for _, f := range fs {
		t := titleOf(f.Name)
		im.gen = max(im.gen, t.gen)
		im.next = max(im.next, t.id+1)
	}
	return im, api.OK
}

// checkpoint is a manifest, and what stands in its files.
type checkpoint struct {
	stock
	manifest api.Manifest
}

// newest tells the whole checkpoint with the greatest generation: an empty one, if there is no manifest's file.
func newest(fs []api.File) (checkpoint, api.Errno) {
	s := shelfOf(fs)
	gens := s.generations()
	for _, gen := range slices.Backward(gens) {
		if c, ok := s.whole(gen); ok {
			return c, api.OK
		}
	}
	none := checkpoint{stock: newStock()}
	if len(gens) > 0 {
		return none, api.ErrMissing
	}
	return none, api.OK
}

// shelf holds files by name: of several of one name the first.
type shelf map[string]api.File

func shelfOf(fs []api.File) shelf {
	s := shelf{}
	for _, f := range fs {
		if _, there := s[f.Name]; !there {
			s[f.Name] = f
		}
	}
	return s
}

// generations tells those of all manifests, rising.
func (s shelf) generations() []int {
	var gens []int
	for name := range s {
		if t := titleOf(name); t.kind == manifestFile {
			gens = append(gens, t.gen)
		}
	}
	slices.Sort(gens)
	return gens
}

// whole reads the checkpoint of a generation, and tells whether all of it is there and right.
func (s shelf) whole(gen int) (c checkpoint, ok bool) {
	defer func() {
		if fault := recover(); fault != nil {
			_ = fault.(api.Errno) // what is no fault of the files is none to be caught
			c, ok = checkpoint{}, false
		}
	}()
	c = checkpoint{newStock(), manifestOf(s.bytes(manifestName(gen)))}
	giveUp(c.manifest.Gen != gen, api.ErrMissing)
	for _, n := range c.manifest.Pairs {
		giveUp(!c.add(s.pair(n, c.manifest.Upto)), api.ErrMissing)
	}
	return c, true
}

// bytes tells those of a file that has to be there.
func (s shelf) bytes(name string) string {
	f, there := s[name]
	giveUp(!there, api.ErrMissing)
	return f.Bytes
}

// pair reads the files that a manifest names, and looks whether they are those that it means.
func (s shelf) pair(n api.PairName, upto uint64) *pair {
	b := s.bytes(dataName(n.Id))
	p := &pair{FilePair: dataOf(b), dataSum: n.DataSum, deltaSum: n.DeltaSum}
	giveUp(sumAtEnd(b) != n.DataSum || p.Id != n.Id || p.Lo != n.Lo || p.Hi != n.Hi || len(p.Data) != n.Rows, api.ErrMissing)
	if n.Gen == 0 {
		return p
	}
	b = s.bytes(deltaName(n.Id, n.Gen))
	x := deltaOf(b)
	giveUp(sumAtEnd(b) != n.DeltaSum || x.Id != n.Id || x.Gen != n.Gen || len(x.Gone) != n.Gone, api.ErrMissing)
	for _, g := range x.Gone {
		giveUp(g.End > upto, api.ErrMissing)
	}
	p.Gen, p.Gone = x.Gen, x.Gone
	return p
}

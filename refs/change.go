package refs

import (
	"maps"
	"slices"

	"palimpsest/api"
	"palimpsest/counts"
)

// change is counts that are to be changed, gathered ahead of all that is written.
type change struct {
	*Refs
	by      int64
	found   map[int64]int64  // the blocks' places, by their numbers; of those that are missing, where they are to be made
	made    map[int64]int64  // those of them that are missing
	sectors map[int64][]byte // the blocks' sectors, as they are to be, by their places
}

// step is something that is done to the file, and may fail.
type step func() api.Errno

// gather reckons what counts are to be, and what must be made for that; it refuses, or else nothing but steps can fail.
func (r *Refs) gather(by int64, clusters []int64) (*change, api.Errno) {
	size, no := r.asked(clusters...)
	if no != api.OK {
		return nil, no
	}
	c := &change{r, by, map[int64]int64{}, map[int64]int64{}, map[int64][]byte{}}
	find := r.finder(size, r.read)
	for _, k := range clusters {
		if no := c.locate(k/r.perBlock(), find); no != api.OK {
			return nil, no
		}
	}
	if no := c.settle(); no != api.OK {
		return nil, no
	}
	for _, k := range clusters {
		if no := c.count(k); no != api.OK {
			return nil, no
		}
	}
	return c, api.OK
}

// locate finds a block, once.
func (c *change) locate(block int64, find func(int64) (int64, api.Errno)) api.Errno {
	if _, known := c.found[block]; known {
		return api.OK
	}
	place, no := find(block)
	if no != api.OK {
		return no
	}
	if place == missing {
		// Its counts are 0: none is made for them to be less.
		if c.by < 0 {
			return api.ErrBroken
		}
		place = c.home(block)
		c.made[block] = place
	}
	c.found[block] = place
	return api.OK
}

// settle tells whether the missing blocks can be made where they belong.
// A head, a table or a block that lies there is one that no count tells of: such an image is broken, and is not to be broken further.
func (c *change) settle() api.Errno {
	if len(c.made) == 0 {
		return api.OK
	}
	homes := map[int64]struct{}{}
	for _, place := range c.made {
		if place == 0 || place >= c.table && place < c.entry(c.blocks) {
			return api.ErrBroken
		}
		homes[place] = struct{}{}
	}
	no := c.places(c.read, func(place int64) api.Errno {
		if _, is := homes[place]; is {
			return api.ErrBroken
		}
		return api.OK
	})
	if no != api.OK {
		return no
	}
	for place := range homes {
		if place > api.MaxFile-c.cluster {
			return api.ErrFull
		}
	}
	return api.OK
}

// count adds to a cluster's count, in memory.
func (c *change) count(cluster int64) api.Errno {
	off, i := c.spot(cluster)
	b, no := c.sector(cluster/c.perBlock(), off)
	if no != api.OK {
		return no
	}
	_, no = counts.Add(b, c.order, i, c.by)
	switch {
	case no == api.OK:
		return api.OK
	case c.by < 0:
		return api.ErrBroken
	}
	return api.ErrFull
}

// sector is the sector of a block that begins there, as it is to be so far.
func (c *change) sector(block, off int64) ([]byte, api.Errno) {
	place := c.found[block] + off
	if b := c.sectors[place]; b != nil {
		return b, api.OK
	}
	b, no := c.before(block, off)
	if no != api.OK {
		return nil, no
	}
	c.sectors[place] = b
	return b, api.OK
}

// before is the sector of a block that begins there, as it is ahead of all changes; of a missing one, as it is made.
func (c *change) before(block, off int64) ([]byte, api.Errno) {
	if _, is := c.made[block]; is {
		return slices.Clone(c.fresh()[off:][:api.Sector]), api.OK
	}
	return c.read(c.found[block]+off, api.Sector)
}

// steps are what is to be done: blocks are made, and last, ahead of the table's leading to them, and that lasts ahead of the counts.
func (c *change) steps() []step {
	var blocks, leads, sums []step
	for _, i := range slices.Sorted(maps.Keys(c.made)) {
		blocks = append(blocks, c.put(c.made[i], c.fresh()))
		leads = append(leads, c.put(c.entry(i), word(c.made[i])))
	}
	if len(c.made) > 0 {
		blocks = append(blocks, c.flush)
		leads = append(leads, c.flush)
	}
	for _, place := range slices.Sorted(maps.Keys(c.sectors)) {
		sums = append(sums, c.put(place, c.sectors[place]))
	}
	return slices.Concat(blocks, leads, sums)
}

// put is the step that writes bytes to a place.
func (r *Refs) put(at int64, b []byte) step {
	return func() api.Errno { return r.store.Write(r.name, at, b) }
}

// flush is the step that lets all that was written last.
func (r *Refs) flush() api.Errno { return r.store.Flush(r.name) }

// do does steps one by one, up to the first that fails.
func do(steps []step) api.Errno {
	for _, s := range steps {
		if no := s(); no != api.OK {
			return no
		}
	}
	return api.OK
}

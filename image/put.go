package image

import (
	"palimpsest/api"
	"palimpsest/entry"
)

// put puts an entry, and releases what was there.
func (c *core) put(k int64, e api.Entry) api.Errno {
	s, no := c.look()
	if no != api.OK {
		return no
	}
	if !s.reaches(k) || !s.there(e) {
		return api.ErrRange
	}
	at, no := s.spot(k)
	if no != api.OK {
		return no
	}
	// Where nothing changes, no table is made or copied for it.
	if at.says == e && c.home(e) == 0 {
		return api.OK
	}
	p := putting{s, at, e, sums{}}
	if old := c.home(at.says); old != 0 {
		p.lost[old]++
	}
	alone, no := p.alone()
	if no != api.OK {
		return no
	}
	if alone {
		return p.inPlace()
	}
	return p.inNew()
}

// putting is an entry that is to be put: where, what, and what is released by that.
type putting struct {
	seen
	at   spot
	now  api.Entry
	lost sums
}

// alone tells whether the L2 table is there, and the active tree holds it alone.
func (p putting) alone() (bool, api.Errno) {
	if p.at.table == 0 {
		return false, api.OK
	}
	count, no := p.Count(p.at.table / p.cluster())
	return count <= 1, no
}

// inPlace puts the entry into the table that is there.
func (p putting) inPlace() api.Errno {
	if no := p.may(-1, p.lost); no != api.OK {
		return no
	}
	b := make([]byte, wide)
	if no := entry.Put(b, 0, p.now, p.bits); no != api.OK {
		return no
	}
	steps := []step{p.flush, p.write(p.at.table+int64(p.at.i)*wide, b), p.flush}
	return p.done(append(steps, p.release()...)...)
}

// inNew puts the entry into a new table; the one that is there, if there is one, is held by other trees, which keep it.
// All else that it leads to is held by the new one as well, in the active tree's stead: those counts stay.
func (p putting) inNew() api.Errno {
	b := make([]byte, p.cluster())
	if p.at.table != 0 {
		p.lost[p.at.table/p.cluster()]++
		old, no := p.table(p.at.table)
		if no != api.OK {
			return no
		}
		b = old
	}
	if no := p.may(-1, p.lost); no != api.OK {
		return no
	}
	if no := entry.Put(b, p.at.i, p.now, p.bits); no != api.OK {
		return no
	}
	place := int64(0)
	steps := []step{
		p.take(1, &place),
		func() api.Errno { return p.store.Write(p.name, place, b) },
		p.flush,
		func() api.Errno { return p.store.Write(p.name, p.at.lead, word(place)) },
		p.flush,
	}
	return p.done(append(steps, p.release()...)...)
}

// release are the steps that lower the counts of what is held no more, behind the flush of what held it.
func (p putting) release() []step {
	if len(p.lost) == 0 {
		return nil
	}
	return []step{p.add(-1, p.lost), p.flush}
}

// take is the step that takes a run of n clusters, and tells its place.
func (c *core) take(n int, place *int64) step {
	return func() (no api.Errno) {
		*place, no = c.Alloc(n)
		return no
	}
}

// share adds one to the count of the cluster that a place lies in.
func (c *core) share(place int64) api.Errno {
	k, no := c.at(place)
	if no != api.OK {
		return no
	}
	return c.done(func() api.Errno { return c.Add(1, k) }, c.flush)
}

// save takes a run for bytes, and writes them there.
func (c *core) save(b []byte, place *int64) api.Errno {
	// No file has room for more than it may have, however much more that is.
	n := min(max(parts(int64(len(b)), c.cluster()), 1), api.MaxFile/c.cluster()+1)
	fill := func() api.Errno {
		whole := make([]byte, n*c.cluster())
		copy(whole, b)
		return c.store.Write(c.name, *place, whole)
	}
	return c.done(c.take(int(n), place), fill, c.flush)
}

package cow

import "palimpsest/api"

const (
	wide    = 8 // bytes of an entry, or of a place, in a table
	perByte = 8 // bits of a byte
)

// take takes what changes need, ahead of all of them: clusters, and counts of those that packed bytes come into.
func (d *Disk) take(h api.Head, list []change) api.Errno {
	spare, no := d.tables(h, list)
	if no != api.OK {
		return no
	}
	end := d.lay(h, list)
	need := spare
	for _, c := range list {
		if c.begins() {
			need++
		}
	}
	places, no := d.clusters(h, need)
	if no != api.OK {
		return no
	}
	for i := range list {
		c := &list[i]
		switch {
		case c.begins():
			c.place, c.taken, places = places[0], true, places[1:]
		case c.behind:
			c.place = end
		}
		if c.kind == api.EntryPacked {
			end = c.place + int64(len(c.b))
		}
	}
	// The image takes clusters for tables by itself; these only told that there is room.
	if no := d.free(places); no != api.OK {
		return no
	}
	return d.share(list)
}

// tables tells how many clusters the image takes for tables of entries, when all of these are put: for those that are missing, or that other trees hold.
func (d *Disk) tables(h api.Head, list []change) (int64, api.Errno) {
	// Where just one is put, and that is refused, nothing has changed.
	if len(list) == 1 {
		return 0, api.OK
	}
	many, seen, need := int64(1)<<h.Bits/wide, int64(-1), int64(0)
	for _, c := range list {
		table := c.k / many
		if !c.puts() || table == seen {
			continue
		}
		seen = table
		taken, no := d.taken(h.L1 + table*wide)
		if no != api.OK {
			return 0, no
		}
		if taken {
			need++
		}
	}
	return need, api.OK
}

// taken tells whether a cluster is taken when an entry is put into the table whose place stands there.
func (d *Disk) taken(at int64) (bool, api.Errno) {
	b, no := d.image.Read(at, wide)
	if no != api.OK {
		return false, no
	}
	place := int64(0)
	for i, x := range b {
		place |= int64(x) << (perByte * i)
	}
	if place == 0 {
		return true, api.OK
	}
	count, no := d.image.Count(place)
	return count > 1, no
}

// clusters takes so many clusters, in runs as long as there are.
func (d *Disk) clusters(h api.Head, need int64) ([]int64, api.Errno) {
	var list []int64
	for long := need; need > 0; {
		long = min(long, need)
		place, no := d.image.Alloc(int(long))
		if no == api.ErrFull && long > 1 && d.writable() == api.OK {
			long /= 2
			continue
		}
		if no != api.OK {
			return nil, d.undone(no, list)
		}
		for i := range long {
			list = append(list, place+i<<h.Bits)
		}
		need -= long
	}
	return list, api.OK
}

// share raises the counts of the clusters that packed bytes come into.
func (d *Disk) share(list []change) api.Errno {
	for i := range list {
		if c := &list[i]; c.behind {
			if no := d.image.Share(c.place); no != api.OK {
				return no
			}
			c.taken = true
		}
	}
	return api.OK
}

// giveBack gives back what was taken for changes that were not done, and tells why they were not.
func (d *Disk) giveBack(h api.Head, list []change, why api.Errno) api.Errno {
	var places []int64
	for _, c := range list {
		if c.taken {
			places = append(places, c.place>>h.Bits<<h.Bits)
		}
	}
	return d.undone(why, places)
}

// undone gives clusters back, and tells why; where a step has failed, none is given back any more.
func (d *Disk) undone(why api.Errno, places []int64) api.Errno {
	if d.writable() != api.OK {
		return why
	}
	if no := d.free(places); no != api.OK {
		return no
	}
	return why
}

// free gives clusters back.
func (d *Disk) free(places []int64) api.Errno {
	for _, place := range places {
		if no := d.image.Free(place, 1); no != api.OK {
			return no
		}
	}
	return api.OK
}

package cow

import "palimpsest/api"

// change is what is done to a guest cluster; one that is nothing does nothing.
type change struct {
	k      int64
	kind   api.EntryKind // what its entry is to be
	here   bool          // its cluster is written in its place, and the entry stays
	behind bool          // these packed bytes come behind those ahead of them, into the same cluster
	place  int64         // where its bytes are written
	taken  bool          // the count there is raised for it
	b      []byte
}

// inPlace is the change of a cluster that is written in its place.
func inPlace(place int64, b []byte) change {
	return change{kind: api.EntryData, here: true, place: place, b: b}
}

// puts tells whether it puts an entry.
func (c change) puts() bool { return c.kind != api.EntryNone && !c.here }

// begins tells whether it takes a cluster.
func (c change) begins() bool { return c.puts() && c.kind != api.EntryZero && !c.behind }

// entry is what it puts.
func (c change) entry() api.Entry {
	e := api.Entry{Kind: c.kind, Place: c.place}
	if c.kind == api.EntryPacked {
		e.Len = len(c.b)
	}
	return e
}

// do does changes, in their order, if there is room for all of them.
func (d *Disk) do(list []change) api.Errno {
	if len(list) == 0 {
		return api.OK
	}
	h, no := d.image.Head()
	if no != api.OK {
		return no
	}
	no = d.take(h, list)
	for i := 0; i < len(list) && no == api.OK; i++ {
		no = d.put(&list[i])
	}
	if no != api.OK {
		return d.giveBack(h, list, no)
	}
	return api.OK
}

// put does a change. Its bytes are flushed by the image ahead of its entry.
func (d *Disk) put(c *change) api.Errno {
	if len(c.b) > 0 {
		if no := d.image.Write(c.place, c.b); no != api.OK {
			return no
		}
	}
	if !c.puts() {
		return api.OK
	}
	if no := d.image.Put(c.k, c.entry()); no != api.OK {
		return no
	}
	c.taken = false
	if c.kind == api.EntryPacked {
		d.filling.add(*c)
	}
	return api.OK
}

package cow

import (
	"palimpsest/api"
	"palimpsest/deflate"
)

const (
	mostLevel  = 2     // of packing
	mostPacked = 16383 // bytes of which an entry can tell
)

// filling is the cluster into which packed bytes come, as long as it is held by nothing but entries that were put here.
type filling struct {
	end  int64 // of those that were put there
	list []placed
}

// placed is an entry that was put.
type placed struct {
	k     int64
	entry api.Entry
}

// add tells of packed bytes that were put.
func (f *filling) add(c change) {
	if !c.behind {
		f.list = nil
	}
	e := c.entry()
	f.list = append(f.list, placed{c.k, e})
	f.end = e.Place + int64(e.Len)
}

// packing is what lets a part, which is whole, be packed, if that is worth it.
func packing(p part, level int, fill func(p part, content []byte)) (change, bool) {
	content := make([]byte, p.cluster)
	fill(p, content)
	b, no := deflate.Pack(content, level)
	if no != api.OK || len(b) >= len(content) || len(b) > mostPacked {
		return change{}, false
	}
	return change{k: p.k, kind: api.EntryPacked, b: b}, true
}

// lay tells of each packed bytes whether they come behind others in a cluster, and where the first ones of them do.
func (d *Disk) lay(h api.Head, list []change) int64 {
	end, count := d.open()
	cluster, most := int64(1)<<h.Bits, uint64(1)<<(1<<h.Order)-1
	off := end % cluster
	for i := range list {
		c := &list[i]
		if c.kind != api.EntryPacked {
			continue
		}
		long := int64(len(c.b))
		c.behind = off > 0 && off+long <= cluster && count < most
		if !c.behind {
			off, count = 0, 0
		}
		off += long
		count++
	}
	return end
}

// open tells where the next packed bytes may come behind others, and the count of that cluster; 0: there is none.
// Where the count tells of others too, those may lead to bytes that were not put here: another disk of this image may have taken the cluster anew.
func (d *Disk) open() (int64, uint64) {
	known, place := uint64(0), int64(0)
	for _, p := range d.filling.list {
		if e, no := d.image.Entry(p.k); no == api.OK && e == p.entry {
			known++
			place = e.Place
		}
	}
	if known == 0 {
		return 0, 0
	}
	if count, no := d.image.Count(place); no != api.OK || count != known {
		return 0, 0
	}
	return d.filling.end, known
}

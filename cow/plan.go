package cow

import (
	"bytes"

	"palimpsest/api"
)

// plan is how a range is to be changed.
type plan struct {
	packs bool
	level int                                      // of packing
	whole func(p part, e api.Entry) (change, bool) // what is done to a part, if that needs nothing of what its cluster has
	fill  func(p part, content []byte)             // lets a part's content be what it is to be
}

// may tells whether it may be.
func (h plan) may() bool { return h.level >= 0 && h.level <= mostLevel }

// planned lists the changes of a range's parts.
func (d *Disk) planned(s span, how plan) ([]change, api.Errno) {
	var list []change
	broken := api.OK
parts:
	for p := range s.parts() {
		e, no := d.image.Entry(p.k)
		if no != api.OK {
			return nil, no
		}
		if c, is := how.whole(p, e); is {
			list = append(list, c)
			continue parts
		}
		c, no := d.turned(p, e, func(content []byte) { how.fill(p, content) })
		switch no {
		case api.OK:
			list = append(list, c)
		case api.ErrBroken:
			// What the images answer comes ahead of that, also where parts behind are read.
			broken = no
		default:
			return nil, no
		}
	}
	return list, broken
}

// zeroing is what lets a part be noughts, if it is whole, or its cluster is noughts already.
func zeroing(p part, e api.Entry) (change, bool) {
	switch {
	case e.Kind == api.EntryZero:
		return change{}, true
	case p.whole():
		return change{k: p.k, kind: api.EntryZero}, true
	}
	return change{}, false
}

// turned is what lets a part be what fill makes of it, and all else of its cluster's content stay.
func (d *Disk) turned(p part, e api.Entry, fill func(content []byte)) (change, api.Errno) {
	alone, no := d.alone(e)
	if no != api.OK {
		return change{}, no
	}
	if alone {
		b := make([]byte, p.n)
		fill(b)
		return inPlace(e.Place+p.from(), b), api.OK
	}
	b := make([]byte, p.cluster)
	if !p.whole() {
		if b, no = d.cluster(p.k, p.cluster); no != api.OK {
			return change{}, no
		}
	}
	fill(b[p.from():][:p.n])
	return change{k: p.k, kind: api.EntryData, b: b}, api.OK
}

// alone tells whether an entry is a cluster that it alone holds.
func (d *Disk) alone(e api.Entry) (bool, api.Errno) {
	if e.Kind != api.EntryData {
		return false, api.OK
	}
	count, no := d.image.Count(e.Place)
	return count == 1, no
}

// cluster is the content of a guest cluster, with noughts beyond the size.
func (d *Disk) cluster(k, long int64) ([]byte, api.Errno) {
	list, no := d.pieces(nil, k*long, long, 0)
	if no != api.OK {
		return nil, no
	}
	return told(list, k*long, long)
}

// settling is what lets a guest cluster be the image's own, and its cluster's bytes beyond the size be noughts.
func (d *Disk) settling(k int64) ([]change, api.Errno) {
	e, no := d.image.Entry(k)
	if no != api.OK || e.Kind == api.EntryZero {
		return nil, no
	}
	s, no := d.find(span{})
	if no != api.OK {
		return nil, no
	}
	if e.Kind == api.EntryData {
		below := min(max(s.size-k*s.cluster, 0), s.cluster)
		beyond, no := d.image.Read(e.Place+below, int(s.cluster-below))
		if no != api.OK || bytes.Equal(beyond, make([]byte, len(beyond))) {
			return nil, no
		}
		alone, no := d.alone(e)
		if no != api.OK || alone {
			clear(beyond)
			return []change{inPlace(e.Place+below, beyond)}, no
		}
	}
	b, no := d.cluster(k, s.cluster)
	return []change{{k: k, kind: api.EntryData, b: b}}, no
}

package image

import (
	"palimpsest/api"
	"palimpsest/entry"
	"palimpsest/head"
	"palimpsest/refs"
)

// fixed is what a head says as long as the image is open.
type fixed struct {
	bits, order int
	counts      int64
	countsLen   int
}

// fixedOf is what of a head is not to change.
func fixedOf(h api.Head) fixed { return fixed{h.Bits, h.Order, h.Counts, h.CountsLen} }

// cluster tells a cluster's bytes.
func (f fixed) cluster() int64 { return 1 << f.bits }

// core is an image's tables over its file. Its counts' methods are promoted here, and not to who uses an image: they do not ask whether it may be written.
type core struct {
	*refs.Refs
	file
	fixed
}

// seen is an image's tables as they are seen at a time, with the file's size and the head.
type seen struct {
	*core
	size int64
	head api.Head
}

// look looks at the tables.
func (c *core) look() (seen, api.Errno) {
	size, no := c.store.Size(c.name)
	if no != api.OK {
		return seen{}, no
	}
	h, no := c.head()
	if no != api.OK {
		return seen{}, no
	}
	return seen{c, size, h}, api.OK
}

// at tells in which cluster a place of the file lies.
func (c *core) at(place int64) (int64, api.Errno) {
	size, no := c.store.Size(c.name)
	if no != api.OK {
		return 0, no
	}
	if place < 0 || place >= size {
		return 0, api.ErrRange
	}
	return place / c.cluster(), api.OK
}

// within tells whether so many bytes from a place on lie within the file. Nothing is added to the place itself: a huge one would wrap round.
func (s seen) within(place, long int64) bool {
	c := s.cluster()
	return place > 0 && place%c == 0 && place/c+parts(long, c) <= s.size/c
}

// reaches tells whether the L1 table has an entry for a guest cluster.
func (s seen) reaches(k int64) bool {
	return k >= 0 && k/head.Entries(s.head) < int64(s.head.L1Len)
}

// there tells whether what an entry leads to lies within the file.
func (s seen) there(e api.Entry) bool {
	k := s.home(e)
	return k == 0 || s.within(k*s.cluster(), s.cluster())
}

// home tells the cluster that an entry leads to; 0: none, as no entry leads to the head's.
func (f fixed) home(e api.Entry) int64 { return e.Place / f.cluster() }

// l1 tells whether an L1 table of so many entries lies within the file.
func (s seen) l1(place int64, long int) bool {
	return int64(long) <= s.size/wide && s.within(place, int64(long)*wide)
}

// lead tells the place of an L2 table, as an L1 table says it there; 0: there is none.
func (s seen) lead(at int64) (int64, api.Errno) {
	b, no := s.read(at, wide)
	if no != api.OK {
		return 0, no
	}
	place := number(b)
	if place != 0 && !s.within(place, s.cluster()) {
		return 0, api.ErrBroken
	}
	return place, api.OK
}

// table is the bytes of an L2 table.
func (s seen) table(place int64) ([]byte, api.Errno) { return s.read(place, int(s.cluster())) }

// entry tells an entry of a table's bytes.
func (s seen) entry(table []byte, i int) (api.Entry, api.Errno) {
	e, no := entry.Get(table, i, s.bits)
	if no != api.OK || !s.there(e) {
		return api.Entry{}, api.ErrBroken
	}
	return e, api.OK
}

// spot is where a guest cluster's entry stands, and what it says.
type spot struct {
	lead  int64 // where the place of its L2 table stands
	table int64 // that place; 0: there is none
	i     int   // which of the table's entries it is
	says  api.Entry
}

// spot tells where a guest cluster's entry stands, of one that the L1 table has an entry for.
func (s seen) spot(k int64) (spot, api.Errno) {
	if !s.l1(s.head.L1, s.head.L1Len) {
		return spot{}, api.ErrBroken
	}
	many := head.Entries(s.head)
	at := spot{lead: s.head.L1 + k/many*wide, i: int(k % many)}
	table, no := s.lead(at.lead)
	if no != api.OK {
		return spot{}, no
	}
	if table == 0 {
		return at, api.OK
	}
	b, no := s.read(table+int64(at.i)*wide, wide)
	if no != api.OK {
		return spot{}, no
	}
	at.table = table
	if at.says, no = s.entry(b, 0); no != api.OK {
		return spot{}, no
	}
	return at, api.OK
}

// own is a guest cluster whose entry is not nothing.
type own struct {
	k     int64
	entry api.Entry
}

// owned lists the guest's own clusters, up to the first one that cannot be read.
func (c *core) owned() []own {
	s, no := c.look()
	if no != api.OK || !s.l1(s.head.L1, s.head.L1Len) {
		return nil
	}
	var list []own
	many, guest := head.Entries(s.head), head.Guest(s.head)
	for first := int64(0); first < guest; first += many {
		table, no := s.lead(s.head.L1 + first/many*wide)
		if no != api.OK {
			return list
		}
		if table == 0 {
			continue
		}
		b, no := s.table(table)
		if no != api.OK {
			return list
		}
		for i := range min(many, guest-first) {
			e, no := s.entry(b, int(i))
			if no != api.OK {
				return list
			}
			if e.Kind != api.EntryNone {
				list = append(list, own{first + i, e})
			}
		}
	}
	return list
}

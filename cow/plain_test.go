package cow

import (
	"bytes"
	"fmt"
	"slices"

	"palimpsest/api"
	"palimpsest/deflate"
)

// plain is a disk as rows of sectors, by the document's words.
type plain struct {
	size  int64 // sectors
	per   int64 // of a cluster
	rows  []row // by the guest clusters
	below *plain
}

// row is a guest cluster: its kind, and, of what is data or packed, its sectors.
type row struct {
	kind api.EntryKind
	list []int
}

// blank is a plain disk of which nothing is its own.
func blank(bits int, sectors int64, below *plain) *plain {
	per := int64(1) << bits / api.Sector
	return &plain{sectors, per, make([]row, (sectors+per-1)/per), below}
}

// copies are a plain disk, and those below it, that go on apart; the first one first.
func (p *plain) copies() []*plain {
	if p == nil {
		return nil
	}
	list := p.below.copies()
	c := &plain{p.size, p.per, nil, nil}
	if len(list) > 0 {
		c.below = list[0]
	}
	for _, r := range p.rows {
		c.rows = append(c.rows, row{r.kind, slices.Clone(r.list)})
	}
	return append([]*plain{c}, list...)
}

// tells tells of a sector: which it is, of what kind, by which of the disks.
func (p *plain) tells(s int64) (x int, kind api.EntryKind, depth int) {
	for ; p != nil && s < p.size; p, depth = p.below, depth+1 {
		switch r := p.rows[s/p.per]; r.kind {
		case api.EntryZero:
			return 0, r.kind, depth
		case api.EntryData, api.EntryPacked:
			return r.list[s%p.per], r.kind, depth
		}
	}
	return 0, api.EntryNone, 0
}

// bytes is the content from a sector on.
func (p *plain) bytes(from, n int64) []byte {
	var b []byte
	for s := from; s < from+n; s++ {
		x, _, _ := p.tells(s)
		b = append(b, sector(x)...)
	}
	return b
}

// extents are the pieces from a sector on.
func (p *plain) extents(from, n int64) []api.Extent {
	var list []api.Extent
	for s := from; s < from+n; s++ {
		_, kind, depth := p.tells(s)
		if i := len(list) - 1; i >= 0 && list[i].Kind == kind && list[i].Depth == depth {
			list[i].Len += api.Sector
			continue
		}
		list = append(list, api.Extent{At: s * api.Sector, Len: api.Sector, Kind: kind, Depth: depth})
	}
	return list
}

// ranged tells what speaks against a range of bytes.
func (p *plain) ranged(at, n int64) api.Errno {
	size := p.size * api.Sector
	switch {
	case at%512 != 0 || n%512 != 0 || at < 0 || n < 0:
		return api.ErrArg
	case at > size || n > size-at:
		return api.ErrRange
	}
	return api.OK
}

// whole tells whether all sectors of a guest cluster are among n from one on.
func (p *plain) whole(k, from, n int64) bool {
	return from <= k*p.per && from+n >= min((k+1)*p.per, p.size)
}

// wholes tells whether a range is whole clusters from a cluster's begin on.
func (p *plain) wholes(from, n int64) bool {
	return from%p.per == 0 && ((from+n)%p.per == 0 || from+n == p.size)
}

// touched are the guest clusters in which n sectors from one on lie.
func (p *plain) touched(from, n int64) []int64 {
	var list []int64
	for s := from; s < from+n; s++ {
		if k := s / p.per; len(list) == 0 || list[len(list)-1] != k {
			list = append(list, k)
		}
	}
	return list
}

// own lets a guest cluster be its own, of some kind, with its content; noughts lie beyond the size.
func (p *plain) own(k int64, kind api.EntryKind) {
	list := make([]int, p.per)
	for i := range list {
		list[i], _, _ = p.tells(k*p.per + int64(i))
	}
	p.rows[k] = row{kind, list}
}

// write writes sectors from one on.
func (p *plain) write(from int64, list []int) {
	for _, k := range p.touched(from, int64(len(list))) {
		p.own(k, api.EntryData)
	}
	for i, x := range list {
		s := from + int64(i)
		p.rows[s/p.per].list[s%p.per] = x
	}
}

// zero writes noughts to n sectors from one on.
func (p *plain) zero(from, n int64) {
	for _, k := range p.touched(from, n) {
		switch {
		case p.whole(k, from, n):
			p.rows[k] = row{kind: api.EntryZero}
		case p.rows[k].kind != api.EntryZero:
			first := max(from, k*p.per)
			p.write(first, make([]int, min(from+n, (k+1)*p.per)-first))
		}
	}
}

// pack writes sectors from one on that are packed where that is worth it.
func (p *plain) pack(from int64, list []int, level int) {
	p.write(from, list)
	for _, k := range p.touched(from, int64(len(list))) {
		b, _ := deflate.Pack(rowOf(p.rows[k].list...), level)
		if len(b) <= 16383 && int64(len(b)) < p.per*api.Sector {
			p.rows[k].kind = api.EntryPacked
		}
	}
}

// settle lets a guest cluster be its own.
func (p *plain) settle(k int64) {
	if p.rows[k].kind != api.EntryZero {
		p.own(k, api.EntryData)
	}
}

// differs tells what of a disk is not as this; nothing, if all of it is.
func (p *plain) differs(d *Disk) string {
	size := p.size * api.Sector
	if have := d.Size(); have != size {
		return fmt.Sprint("size ", have)
	}
	b, no := d.Read(0, int(size))
	if no != api.OK || !bytes.Equal(b, p.bytes(0, p.size)) {
		return fmt.Sprint("content ", no)
	}
	if have, no := extentsOf(d, 0, size); no != api.OK || !slices.Equal(have, p.extents(0, p.size)) {
		return fmt.Sprint("pieces ", no, have, p.extents(0, p.size))
	}
	for k, r := range p.rows {
		own, no := d.Own(int64(k))
		e, _ := d.Image().Entry(int64(k))
		if no != api.OK || own != (r.kind != api.EntryNone) || e.Kind != r.kind {
			return fmt.Sprint("cluster ", k, own, no, e, r.kind)
		}
	}
	return ""
}

// extentsOf are the pieces that a disk tells.
func extentsOf(d *Disk, at, n int64) ([]api.Extent, api.Errno) {
	all, no := d.Map(at, n)
	if no != api.OK {
		if all != nil {
			panic("an iterator beside an error")
		}
		return nil, no
	}
	return slices.Collect(all), api.OK
}

// act is something that is done to a disk, by its calls and by the plain way.
type act struct {
	said    string
	on      func(d *Disk) api.Errno
	plainly func(p *plain)
}

func writes(from int64, list ...int) act {
	return act{fmt.Sprint("write ", from, list), func(d *Disk) api.Errno { return d.Write(from*api.Sector, rowOf(list...)) }, func(p *plain) { p.write(from, list) }}
}

func zeroes(from, n int64) act {
	return act{fmt.Sprint("zero ", from, n), func(d *Disk) api.Errno { return d.Zero(from*api.Sector, n*api.Sector) }, func(p *plain) { p.zero(from, n) }}
}

func packs(level int, from int64, list ...int) act {
	return act{fmt.Sprint("pack ", level, from, list), func(d *Disk) api.Errno { return d.Pack(from*api.Sector, rowOf(list...), level) }, func(p *plain) { p.pack(from, list, level) }}
}

func forgets(k int64) act {
	return act{fmt.Sprint("forget ", k), func(d *Disk) api.Errno { return d.Forget(k) }, func(p *plain) { p.rows[k] = row{} }}
}

func settles(k int64) act {
	return act{fmt.Sprint("settle ", k), func(d *Disk) api.Errno { return d.Settle(k) }, func(p *plain) { p.settle(k) }}
}

func flushes() act {
	return act{"flush", func(d *Disk) api.Errno { return d.Flush() }, func(*plain) {}}
}

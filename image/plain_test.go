package image

import (
	"encoding/binary"
	"fmt"
	"maps"
	"slices"

	"palimpsest/api"
	"palimpsest/head"
	"palimpsest/tables"
)

// plain reckons what an image's bytes say, by the document's words, without the program's tables and counts.
type plain struct {
	b []byte
	h api.Head
	c int64 // bytes of a cluster
}

// read is the plain way over the bytes of an image, which it changes if counts are set.
func read(b []byte) *plain {
	h, no := head.Read(b)
	if no != api.OK {
		panic("no head")
	}
	return &plain{b, h, 1 << h.Bits}
}

// word is the word at a place.
func (p *plain) word(at int64) uint64 { return binary.LittleEndian.Uint64(p.b[at:]) }

// within tells whether so many bytes from a place on lie within the file.
func (p *plain) within(place uint64, long int64) bool {
	c, whole := uint64(p.c), uint64(len(p.b))/uint64(p.c)*uint64(p.c)
	return place != 0 && place%c == 0 && place < whole && long <= int64(whole-place)
}

// many tells how many entries a table has.
func (p *plain) many() int64 { return p.c / 8 }

// l1 tells whether a tree's L1 table lies within the file.
func (p *plain) l1(r root) bool {
	return r.long >= 0 && r.long <= len(p.b)/8 && p.within(uint64(r.l1), int64(r.long)*8)
}

// lead tells the place of a tree's L2 table, of an L1 table that lies within the file; 0: none; false: it does not lie within the file.
func (p *plain) lead(r root, i int64) (int64, bool) {
	place := p.word(r.l1 + 8*i)
	return int64(place), place == 0 || p.within(place, p.c)
}

// says tells the entry whose word stands at a place, and whether it is one, and leads to what lies within the file.
func (p *plain) says(at int64) (api.Entry, bool) {
	w := p.word(at)
	switch rest := w >> 2; w & 3 {
	case 0, 1:
		return api.Entry{Kind: api.EntryKind(w)}, rest == 0
	case 2:
		return api.Entry{Kind: api.EntryData, Place: int64(rest << 2)}, p.within(rest<<2, p.c)
	}
	long, place := w>>2&0x3fff, w>>16
	in := place % uint64(p.c)
	good := long > 0 && long < uint64(p.c) && in+long <= uint64(p.c) && p.within(place-in, p.c)
	return api.Entry{Kind: api.EntryPacked, Place: int64(place), Len: int(long)}, good
}

// entry tells the entry of a guest cluster in a tree, or why not.
func (p *plain) entry(r root, k int64) (api.Entry, api.Errno) {
	if k < 0 || k/p.many() >= int64(r.long) {
		return api.Entry{}, api.ErrRange
	}
	if !p.l1(r) {
		return api.Entry{}, api.ErrBroken
	}
	table, good := p.lead(r, k/p.many())
	switch {
	case !good:
		return api.Entry{}, api.ErrBroken
	case table == 0:
		return api.Entry{}, api.OK
	}
	if e, good := p.says(table + 8*(k%p.many())); good {
		return e, api.OK
	}
	return api.Entry{}, api.ErrBroken
}

// entries are all entries of a tree; nil, if one cannot be read.
func (p *plain) entries(r root) []api.Entry {
	list := []api.Entry{}
	for k := range int64(r.long) * p.many() {
		e, no := p.entry(r, k)
		if no != api.OK {
			return nil
		}
		list = append(list, e)
	}
	return list
}

// active is the active tree.
func (p *plain) active() root { return root{p.h.L1, p.h.L1Len} }

// roots are all trees, the active one first.
func (p *plain) roots() []root {
	list := []root{p.active()}
	if p.h.Snaps > 0 {
		snaps, no := tables.ReadSnaps(p.h.Bits, p.b[p.h.SnapsAt:][:p.h.SnapsLen], p.h.Snaps)
		if no != api.OK {
			panic("no list")
		}
		for _, s := range snaps {
			list = append(list, root{s.L1, s.L1Len})
		}
	}
	return list
}

// pair is how a guest cluster's entry is told by All.
type pair struct {
	k int64
	e api.Entry
}

// all is what All is to tell.
func (p *plain) all() []pair {
	var list []pair
	for k := range (p.h.Size + p.c - 1) / p.c {
		e, no := p.entry(p.active(), k)
		if no != api.OK {
			return list
		}
		if e.Kind != api.EntryNone {
			list = append(list, pair{k, e})
		}
	}
	return list
}

// tree tells how often a tree holds clusters, but for its L1 table's own, and whether all of it can be read.
func (p *plain) tree(r root) (map[int64]uint64, bool) {
	held := map[int64]uint64{}
	if r.long == 0 {
		return held, true
	}
	if !p.l1(r) {
		return nil, false
	}
	for i := range int64(r.long) {
		table, good := p.lead(r, i)
		if !good {
			return nil, false
		}
		if table == 0 {
			continue
		}
		held[table/p.c]++
		for at := table; at < table+p.c; at += 8 {
			e, good := p.says(at)
			if !good {
				return nil, false
			}
			if e.Place > 0 {
				held[e.Place/p.c]++
			}
		}
	}
	return held, true
}

// holders tells how many holders clusters have, of an image that is right but for its counts, and has no bitmaps.
func (p *plain) holders() map[int64]uint64 {
	held := map[int64]uint64{0: 1}
	run := func(place, long int64) {
		for at := place; at < place+long; at += p.c {
			held[at/p.c]++
		}
	}
	run(p.h.Counts, int64(p.h.CountsLen)*p.c)
	for at := p.h.Counts; at < p.h.Counts+int64(p.h.CountsLen)*p.c; at += 8 {
		if place := int64(p.word(at)); place != 0 {
			run(place, p.c)
		}
	}
	for _, r := range p.roots() {
		run(r.l1, int64(r.long)*8)
		tree, good := p.tree(r)
		if !good {
			panic("a tree that cannot be read")
		}
		for k, n := range tree {
			held[k] += n
		}
	}
	run(p.h.SnapsAt, int64(p.h.SnapsLen))
	return held
}

// per tells how many counts a block has.
func (p *plain) per() int64 { return p.c * 8 >> p.h.Order }

// room tells how many clusters the counts' table can tell of.
func (p *plain) room() int64 { return int64(p.h.CountsLen) * p.many() * p.per() }

// most is the greatest count.
func (p *plain) most() uint64 { return ^uint64(0) >> (64 - 1<<p.h.Order) }

// block tells where a cluster's block is; 0: missing; false: not where it can be read.
func (p *plain) block(k int64) (int64, bool) {
	at := p.h.Counts + k/p.per()*8
	if k < 0 || k >= p.room() || at+8 > int64(len(p.b)) {
		return 0, false
	}
	place := p.word(at)
	return int64(place), place == 0 || p.within(place, p.c)
}

// count tells a cluster's count, and whether it can be read.
func (p *plain) count(k int64) (uint64, bool) {
	place, good := p.block(k)
	if !good || place == 0 {
		return 0, good
	}
	x, width := uint64(0), int64(1)<<p.h.Order
	for i := range width {
		bit := k%p.per()*width + i
		x |= uint64(p.b[place+bit/8]>>(bit%8)&1) << i
	}
	return x, true
}

// set sets a count, whose block is there.
func (p *plain) set(k int64, x uint64) {
	place, good := p.block(k)
	if !good || place == 0 {
		panic(fmt.Sprint("no block of ", k))
	}
	width := int64(1) << p.h.Order
	for i := range width {
		bit := k%p.per()*width + i
		p.b[place+bit/8] &^= 1 << (bit % 8)
		p.b[place+bit/8] |= byte(x>>i&1) << (bit % 8)
	}
}

// sums tells all counts that are not 0.
func (p *plain) sums() map[int64]uint64 {
	all := map[int64]uint64{}
	for k := range min(p.room(), int64(len(p.b))/p.c+2*p.per()) {
		if x, good := p.count(k); good && x > 0 {
			all[k] = x
		}
	}
	return all
}

// blocksMade tells the clusters of blocks that were missing before, and are there now: such a one holds the first one of those that it tells of.
func blocksMade(before, now *plain) map[int64]uint64 {
	more := map[int64]uint64{}
	for k := int64(0); k < now.room(); k += now.per() {
		old, _ := before.block(k)
		if made, _ := now.block(k); old == 0 && made != 0 {
			more[made/now.c]++
		}
	}
	return more
}

// counted tells what is wrong, if counts are not what they were, with so much more of some, less of others, and blocks that were made.
func counted(before, now *plain, more, less map[int64]uint64) string {
	should := before.sums()
	for _, m := range []map[int64]uint64{more, blocksMade(before, now)} {
		for k, n := range m {
			should[k] += n
		}
	}
	for k, n := range less {
		should[k] -= n
	}
	maps.DeleteFunc(should, func(_ int64, n uint64) bool { return n == 0 })
	if have := now.sums(); !maps.Equal(have, should) {
		return fmt.Sprint("counts ", have, ", want ", should)
	}
	return ""
}

// changed lists the clusters, by their places, whose bytes are other than they were, but for the counts' table and blocks.
func changed(before, now *plain) []int64 {
	var list []int64
	counts := map[int64]struct{}{}
	for i := range int64(now.h.CountsLen) {
		counts[now.h.Counts+i*now.c] = struct{}{}
	}
	for k := int64(0); k < now.room(); k += now.per() {
		if place, good := now.block(k); good {
			counts[place] = struct{}{}
		}
	}
	old := append(slices.Clone(before.b), make([]byte, max(len(now.b)-len(before.b), 0))...)
	for at := int64(0); at < int64(len(now.b)); at += now.c {
		end := min(at+now.c, int64(len(now.b)))
		if _, is := counts[at]; (at == 0 || !is) && !slices.Equal(old[at:end], now.b[at:end]) {
			list = append(list, at)
		}
	}
	return list
}

package refs

import (
	"bytes"
	"encoding/binary"
	"slices"

	"palimpsest/api"
)

// plain reckons the counts in an image's bytes by the chapter's words, bit by bit.
type plain struct {
	b                         []byte
	c, width, per, table, end int64 // a cluster's bytes, a count's bits, a block's counts, where the counts' table begins and ends
}

// reckon is the plain way over an image's bytes, which it changes if counts are set.
func reckon(h api.Head, b []byte) *plain {
	c, width := int64(1)<<h.Bits, int64(1)<<h.Order
	return &plain{b, c, width, c * 8 / width, h.Counts, h.Counts + int64(h.CountsLen)*c}
}

// room tells how many clusters there is room for.
func (p *plain) room() int64 { return (p.end - p.table) / 8 * p.per }

// block tells where a cluster's block is; 0: missing.
func (p *plain) block(k int64) (int64, api.Errno) {
	at := p.table + k/p.per*8
	if at+8 > int64(len(p.b)) {
		return 0, api.ErrBroken
	}
	place := binary.LittleEndian.Uint64(p.b[at:])
	switch clusters := uint64(len(p.b)) / uint64(p.c); {
	case place == 0:
		return 0, api.OK
	case place%uint64(p.c) != 0, place/uint64(p.c) >= clusters:
		return 0, api.ErrBroken
	}
	return int64(place), api.OK
}

// get tells a cluster's count in a block that lies there.
func (p *plain) get(place, k int64) uint64 {
	x := uint64(0)
	for i := range p.width {
		bit := k%p.per*p.width + i
		x |= uint64(p.b[place+bit/8]>>(bit%8)&1) << i
	}
	return x
}

// put sets a cluster's count in a block that lies there.
func (p *plain) put(place, k int64, x uint64) {
	for i := range p.width {
		bit := k%p.per*p.width + i
		p.b[place+bit/8] &^= 1 << (bit % 8)
		p.b[place+bit/8] |= byte(x>>i&1) << (bit % 8)
	}
}

// count tells a count.
func (p *plain) count(k int64) (uint64, api.Errno) {
	if k < 0 || k >= p.room() {
		return 0, api.ErrRange
	}
	place, no := p.block(k)
	if no != api.OK || place == 0 {
		return 0, no
	}
	return p.get(place, k), api.OK
}

// set sets a count, whose block is there.
func (p *plain) set(k int64, x uint64) {
	place, no := p.block(k)
	if no != api.OK || place == 0 {
		panic("no block")
	}
	p.put(place, k, x)
}

// most is the greatest count.
func (p *plain) most() uint64 { return 1<<(p.width-1) - 1 + 1<<(p.width-1) }

// home is where a cluster's block is made, if it is missing.
func (p *plain) home(k int64) int64 { return k / p.per * p.per * p.c }

// added is the image with its counts added to, or why not.
func (p *plain) added(by int64, clusters ...int64) (*plain, api.Errno) {
	for _, k := range clusters {
		if k < 0 || k >= p.room() {
			return nil, api.ErrRange
		}
	}
	places := make([]int64, len(clusters))
	var lost []int64 // clusters whose blocks are missing
	for i, k := range clusters {
		place, no := p.block(k)
		if no != api.OK {
			return nil, no
		}
		if place == 0 {
			if by < 0 || p.taken(p.home(k)) {
				return nil, api.ErrBroken
			}
			place = p.home(k)
			lost = append(lost, k)
		}
		places[i] = place
	}
	q := *p
	q.b = bytes.Clone(p.b)
	for _, k := range lost {
		if q.home(k)+q.c > api.MaxFile {
			return nil, api.ErrFull
		}
		q.make(k)
	}
	for i, k := range clusters {
		x := q.get(places[i], k)
		switch {
		case by < 0 && x == 0:
			return nil, api.ErrBroken
		case by > 0 && x == q.most():
			return nil, api.ErrFull
		}
		q.put(places[i], k, x+uint64(by))
	}
	for _, k := range lost {
		q.lead(k)
	}
	return &q, api.OK
}

// taken tells whether at a place the head lies, or some of the counts' table, or a block, or whether it can't be told for want of the table.
func (p *plain) taken(place int64) bool {
	if place == 0 || place >= p.table && place < p.end || p.end > int64(len(p.b)) {
		return true
	}
	for at := p.table; at < p.end; at += 8 {
		if binary.LittleEndian.Uint64(p.b[at:]) == uint64(place) {
			return true
		}
	}
	return false
}

// make makes a cluster's block, which is missing.
func (p *plain) make(k int64) {
	home := p.home(k)
	p.grow(home + p.c)
	clear(p.b[home : home+p.c])
	p.b[home] = 1
}

// lead lets the counts' table lead to where a cluster's block is made.
func (p *plain) lead(k int64) {
	binary.LittleEndian.PutUint64(p.b[p.table+k/p.per*8:], uint64(p.home(k)))
}

// grow lets there be so many bytes, rounded up to a cluster, at least.
func (p *plain) grow(size int64) {
	for size%p.c != 0 {
		size++
	}
	if size > int64(len(p.b)) {
		p.b = append(slices.Clip(p.b), make([]byte, size-int64(len(p.b)))...)
	}
}

// sound tells whether all blocks lie within the file.
func (p *plain) sound() bool {
	for k := int64(0); k < p.room(); k += p.per {
		if _, no := p.block(k); no != api.OK {
			return false
		}
	}
	return true
}

// free tells whether a cluster is free.
func (p *plain) free(k int64) bool {
	place, no := p.block(k)
	if no == api.OK && place == 0 {
		return k%p.per != 0
	}
	x, no := p.count(k)
	return no == api.OK && x == 0
}

// longest is how many free clusters there are behind one another, at most, that a file can have.
func (p *plain) longest() int {
	most, n := 0, 0
	for k := range min(p.room(), api.MaxFile/p.c) {
		if n++; !p.free(k) {
			n = 0
		}
		most = max(most, n)
	}
	return most
}

// allFree tells whether all clusters of a run are free.
func (p *plain) allFree(clusters []int64) bool {
	return !slices.ContainsFunc(clusters, func(k int64) bool { return k >= p.room() || !p.free(k) })
}

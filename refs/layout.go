package refs

import (
	"palimpsest/api"
	"palimpsest/counts"
	"palimpsest/head"
)

const (
	wide    = 8 // bytes of a place in the counts' table
	perByte = 8 // bits of a byte
	missing = 0 // the place of a block that is not there
)

// layout is where an image's counts stand, as its head said it.
type layout struct {
	cluster int64 // its bytes
	order   int
	table   int64 // the counts' table's place
	blocks  int64 // how many blocks it can tell of
}

// reader tells n bytes of a file from a place on, all of them.
type reader func(at int64, n int) ([]byte, api.Errno)

// laid is the layout of which a head tells.
func laid(h api.Head) layout {
	c := head.Cluster(h)
	return layout{c, h.Order, h.Counts, int64(h.CountsLen) * c / wide}
}

// perBlock tells how many counts a block has.
func (l layout) perBlock() int64 { return l.cluster * perByte >> l.order }

// perSector tells how many counts a sector of a block has. None of them lies in two: a sector's bits are a multiple of each width.
func (l layout) perSector() int64 { return api.Sector * perByte >> l.order }

// room tells how many clusters the counts' table can tell of.
func (l layout) room() int64 { return l.blocks * l.perBlock() }

// spot tells in which sector of its block a cluster's count stands, by where that sector begins there, and which one of the sector's counts it is.
func (l layout) spot(cluster int64) (off int64, i int) {
	at := cluster % l.perBlock()
	return at / l.perSector() * api.Sector, int(at % l.perSector())
}

// entry tells where the place of a block stands.
func (l layout) entry(block int64) int64 { return l.table + block*wide }

// home tells where a missing block is made: in the first one of those clusters that it tells of.
func (l layout) home(block int64) int64 { return block * l.perBlock() * l.cluster }

// fresh is the bytes of a block that is made: it holds its own cluster, and tells of no other one.
func (l layout) fresh() []byte {
	b := make([]byte, l.cluster)
	// A count of each width can say 1.
	counts.Set(b, l.order, 0, 1)
	return b
}

// within tells whether a block can lie at a place of a file of that size.
func (l layout) within(place, size int64) bool {
	return place > 0 && place%l.cluster == 0 && place/l.cluster < size/l.cluster
}

// finder makes what finds blocks in a file of that size: a block's place by its number, or that it is missing.
func (l layout) finder(size int64, read reader) func(block int64) (int64, api.Errno) {
	return func(block int64) (int64, api.Errno) {
		b, no := read(l.entry(block), wide)
		if no != api.OK {
			return 0, no
		}
		place := number(b)
		if place != missing && !l.within(place, size) {
			return 0, api.ErrBroken
		}
		return place, api.OK
	}
}

// places goes over all blocks' places that the counts' table says, till one of them is refused.
func (l layout) places(read reader, visit func(place int64) api.Errno) api.Errno {
	for at := l.table; at < l.entry(l.blocks); at += l.cluster {
		b, no := read(at, int(l.cluster))
		if no != api.OK {
			return no
		}
		for ; len(b) > 0; b = b[wide:] {
			place := number(b[:wide])
			if place == missing {
				continue
			}
			if no := visit(place); no != api.OK {
				return no
			}
		}
	}
	return api.OK
}

// number is bytes as a place, the lowest byte first; one that is too great for a place is below 0.
func number(b []byte) int64 {
	x := uint64(0)
	for i, c := range b {
		x |= uint64(c) << (perByte * i)
	}
	return int64(x)
}

// word is the bytes of a place.
func word(place int64) []byte {
	b := make([]byte, wide)
	for i := range b {
		b[i] = byte(place >> (perByte * i))
	}
	return b
}

package repair

import (
	"slices"

	"palimpsest/api"
	"palimpsest/counts"
	"palimpsest/head"
)

const (
	perByte = 8 // bits of a byte
	places  = 6 // the order of numbers of 64 bits, as places are
	missing = 0 // the place of a block that is not there
)

// layout is where an image's counts stand.
type layout struct {
	cluster int64  // its bytes
	per     int64  // how many counts a block has
	table   []byte // the counts' table, or as much of it as there is
}

// laid tells where counts stand in an image's bytes, which begin with that head.
func laid(h api.Head, b []byte) layout {
	c, size := head.Cluster(h), int64(len(b))
	from := min(h.Counts, size)
	to := min(from+int64(h.CountsLen)*c, size)
	return layout{c, c * perByte >> h.Order, b[from:to]}
}

// block tells the number of the block that has the count of a find's cluster.
func (l layout) block(f api.Find) int64 { return f.At / l.cluster / l.per }

// spot tells which one of its block's counts that is.
func (l layout) spot(f api.Find) int { return int(f.At / l.cluster % l.per) }

// place tells where a block lies; beyond the counts' table there is none.
func (l layout) place(block int64) int64 {
	x, no := counts.Get(l.table, places, int(block))
	if no != api.OK {
		return missing
	}
	return int64(x)
}

// first tells the number of the first find's block, and how many finds, which are in order, are of that one.
func (l layout) first(finds []api.Find) (block int64, many int) {
	block = l.block(finds[0])
	many = slices.IndexFunc(finds, func(f api.Find) bool { return l.block(f) != block })
	if many < 0 {
		many = len(finds)
	}
	return block, many
}

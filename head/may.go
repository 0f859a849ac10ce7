package head

import (
	"strings"

	"palimpsest/api"
)

const (
	leastBits   = 9
	mostBits    = 16
	mostOrder   = 6
	mostEntries = 1 << 20 // of an L1 table
	mostCounts  = 1 << 16 // clusters of the counts' table
	mostList    = 1 << 16 // bytes of a list of snapshots or of bitmaps
	entryBytes  = 8
)

// rule is a number of a head, and which ones may stand in its place: the multiples of step from least to most.
type rule struct {
	x, least, most, step int64
}

// may tells whether a head may be.
func may(h api.Head) bool {
	// All other rules need a cluster, which there is none of by other bits.
	if h.Bits < leastBits || h.Bits > mostBits {
		return false
	}
	kept := strings.IndexByte(h.Backing, 0) < 0
numbers:
	for _, r := range rules(h) {
		switch {
		case r.x < r.least, r.x > r.most, r.x%r.step != 0:
			kept = false
			break numbers
		}
	}
	return kept
}

// rules tells the rules of a head whose bits may be.
func rules(h api.Head) []rule {
	place := func(at int64) rule {
		return rule{at, cluster(h), api.MaxFile, cluster(h)}
	}
	// What there is nothing of has neither a place nor a length.
	noughtUnless := func(many int, r rule) rule {
		if many == 0 {
			return rule{r.x, 0, 0, 1}
		}
		return r
	}
	list := func(long int) rule {
		return rule{int64(long), 1, mostList, 1}
	}
	return []rule{
		// As a signed number, flags with the highest bit are below 0, and so refused as well.
		{int64(h.Flags), 0, api.FlagDirty, 1},
		{h.Size, 0, api.MaxGuest, api.Sector},
		{int64(h.L1Len), tables(h), mostEntries, 1},
		noughtUnless(h.L1Len, place(h.L1)),
		{int64(h.Order), 0, mostOrder, 1},
		place(h.Counts),
		{int64(h.CountsLen), 1, mostCounts, 1},
		{int64(h.Snaps), 0, api.MaxSnaps, 1},
		noughtUnless(h.Snaps, place(h.SnapsAt)),
		noughtUnless(h.Snaps, list(h.SnapsLen)),
		{int64(h.Bitmaps), 0, api.MaxBitmaps, 1},
		noughtUnless(h.Bitmaps, place(h.BitmapsAt)),
		noughtUnless(h.Bitmaps, list(h.BitmapsLen)),
		{int64(len(h.Backing)), 0, api.MaxName, 1},
	}
}

// cluster tells a cluster's bytes, of a head whose bits may be.
func cluster(h api.Head) int64 { return 1 << h.Bits }

// entries tells how many entries a cluster has, of a head whose bits may be.
func entries(h api.Head) int64 { return cluster(h) / entryBytes }

// guest tells how many guest clusters there are, of a head whose bits and size may be.
func guest(h api.Head) int64 { return parts(h.Size, cluster(h)) }

// tables tells how many L1 entries the guest clusters need, of a head whose bits and size may be.
func tables(h api.Head) int64 { return parts(guest(h), entries(h)) }

// parts tells how many parts of a size make up x, the last one whole or not.
func parts(x, size int64) int64 { return (x + size - 1) / size }

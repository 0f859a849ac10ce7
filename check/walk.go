package check

import (
	"palimpsest/api"
	"palimpsest/head"
	"palimpsest/tables"
)

const wide = 8 // bytes of a place, or of an entry, in a table

// Where the head's own places stand in it.
const (
	l1At      = 24
	countsAt  = 40
	snapsAt   = 56
	bitmapsAt = 72
)

// walk goes through an image's bytes from all roots.
type walk struct {
	file    []byte
	head    api.Head
	cluster int64
	whole   int64 // the file's clusters

	held   map[int64]holding     // by the clusters' numbers
	blocks map[int64]int64       // the blocks' places, by their numbers in the counts' table
	tables map[int64]uint64      // the L2 tables of the trees that are gone through: how often these lead there, by the places
	packs  map[api.Entry]int     // how many bytes packed bytes tell
	finds  map[api.Find]struct{} // each one is told once
	active tally                 // the active tree's entries, by their kinds
}

// root is where a tree begins: where its L1 table's place stands, the place, how many entries it has.
type root struct {
	at, place int64
	long      int
}

// walked goes through an image's bytes, if they begin with a head.
func walked(b []byte) (*walk, api.Errno) {
	h, no := head.Read(b)
	if no != api.OK {
		return nil, no
	}
	w := &walk{
		file: b, head: h, cluster: head.Cluster(h), whole: int64(len(b)) / head.Cluster(h),
		held: map[int64]holding{}, blocks: map[int64]int64{},
		packs: map[api.Entry]int{}, finds: map[api.Find]struct{}{},
	}
	w.hold(0, 1, byHead)
	w.counts()
	w.active = w.trees(root{l1At, h.L1, h.L1Len})
	w.snaps()
	w.bitmaps()
	return w, api.OK
}

// snaps goes through the snapshots' list and their trees.
func (w *walk) snaps() {
	h := w.head
	if h.Snaps == 0 || !w.take(lead{snapsAt, h.SnapsAt, int64(h.SnapsLen), byList}, 1) {
		return
	}
	l, no := tables.ReadSnaps(h.Bits, w.bytes(h.SnapsAt, int64(h.SnapsLen)), h.Snaps)
	if no != api.OK {
		w.found(api.FindList, h.SnapsAt)
	}
	var roots []root
	for _, s := range l {
		roots = append(roots, root{h.SnapsAt, s.L1, s.L1Len})
	}
	w.trees(roots...)
}

// bitmaps goes through the bitmaps' list and their bytes.
func (w *walk) bitmaps() {
	h := w.head
	if h.Bitmaps == 0 || !w.take(lead{bitmapsAt, h.BitmapsAt, int64(h.BitmapsLen), byList}, 1) {
		return
	}
	l, no := tables.ReadRows(h.Bits, w.bytes(h.BitmapsAt, int64(h.BitmapsLen)), h.Bitmaps)
	if no != api.OK {
		w.found(api.FindList, h.BitmapsAt)
	}
	for _, r := range l {
		if r.Len > 0 {
			w.take(lead{h.BitmapsAt, r.At, int64(r.Len), byRow}, 1)
		}
	}
}

// bytes is some bytes of the file, which has them.
func (w *walk) bytes(place, long int64) []byte { return w.file[place : place+long] }

// words goes over the places that a table of the file says, each with its number and with where it stands; those that are 0 lead nowhere.
func (w *walk) words(table, many int64, visit func(i, at, place int64)) {
	for i := range many {
		at := table + i*wide
		if place := number(w.bytes(at, wide)); place != 0 {
			visit(i, at, int64(place))
		}
	}
}

// number is bytes as a number, the lowest first.
func number(b []byte) uint64 {
	x := uint64(0)
	for i, c := range b {
		x |= uint64(c) << (8 * i)
	}
	return x
}

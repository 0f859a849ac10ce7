package check

import (
	"palimpsest/api"
	"palimpsest/counts"
)

// counts goes through the counts' table and its blocks.
func (w *walk) counts() {
	h := w.head
	long := int64(h.CountsLen) * w.cluster
	if w.take(lead{countsAt, h.Counts, long, byCounts}, 1) {
		w.words(h.Counts, long/wide, w.block)
	}
}

// block is led to by an entry of the counts' table.
func (w *walk) block(i, at, place int64) {
	if w.take(lead{at, place, w.cluster, byBlock}, 1) {
		w.blocks[i] = place
	}
}

// judge holds all counts against the holders.
func (w *walk) judge() {
	differs := func(k int64, want, have uint64) {
		switch {
		case have < want:
			w.differ(api.FindLow, k, want, have)
		case have > want:
			w.differ(api.FindLeak, k, want, have)
		}
	}
	for k, h := range w.held {
		if h.twice() {
			w.differ(api.FindTwice, k, 1, h.times)
		}
		differs(k, h.times, w.count(k))
	}
	for k, have := range w.counted {
		if _, is := w.held[k]; !is {
			differs(k, 0, have)
		}
	}
}

// perBlock tells how many counts a block has.
func (w *walk) perBlock() int64 { return w.cluster * 8 >> w.head.Order }

// count tells a cluster's count; 0, if no block has it.
func (w *walk) count(k int64) uint64 {
	place, is := w.blocks[k/w.perBlock()]
	if !is {
		return 0
	}
	c, _ := counts.Get(w.bytes(place, w.cluster), w.head.Order, int(k%w.perBlock()))
	return c
}

// counted goes over all clusters whose count is not 0, with it.
// Each block is gone through once, however many entries of the counts' table lead to it: most of its counts may be 0.
func (w *walk) counted(yield func(k int64, count uint64) bool) {
	same := map[int64][]int64{}
	for i, place := range w.blocks {
		same[place] = append(same[place], i)
	}
	for place, numbers := range same {
		for k, count := range counts.All(w.bytes(place, w.cluster), w.head.Order) {
			for _, i := range numbers {
				if !yield(i*w.perBlock()+int64(k), count) {
					return
				}
			}
		}
	}
}

package check

import (
	"palimpsest/api"
	"palimpsest/deflate"
	"palimpsest/entry"
)

// tally is how many entries there are, by their kinds.
type tally [api.EntryPacked + 1]int64

// trees goes through some trees, and tells how many entries they have whose clusters lie within the file.
// Each L2 table is gone through once, however often they lead to it, and what it leads to is held as often:
// of few bytes that all lead to one another there are more ways than anybody could wait for.
func (w *walk) trees(roots ...root) tally {
	w.tables = map[int64]uint64{}
each:
	for _, r := range roots {
		if r.long == 0 {
			continue each
		}
		if !w.take(lead{r.at, r.place, int64(r.long) * wide, byL1}, 1) {
			continue each
		}
		w.words(r.place, int64(r.long), w.table)
	}
	var sum tally
	for place, times := range w.tables {
		for kind, many := range w.entries(place, times) {
			sum[kind] += many
		}
	}
	return sum
}

// table is led to by an L1 table's entry.
func (w *walk) table(_, at, place int64) {
	if w.take(lead{at, place, w.cluster, byL2}, 1) {
		w.tables[place]++
	}
}

// entries goes over an L2 table's entries, which so many ways lead to, and tells how many there are whose clusters lie within the file.
func (w *walk) entries(table int64, times uint64) tally {
	var sum tally
	b := w.bytes(table, w.cluster)
each:
	for i := range len(b) / wide {
		at := table + int64(i)*wide
		e, no := entry.Get(b, i, w.head.Bits)
		if no != api.OK {
			w.found(api.FindEntry, at)
			continue each
		}
		if !w.enter(at, e, times) {
			continue each
		}
		sum[e.Kind] += int64(times)
	}
	return sum
}

// enter holds what an entry leads to, so many times; it tells whether that lies within the file.
func (w *walk) enter(at int64, e api.Entry, times uint64) bool {
	switch e.Kind {
	case api.EntryData:
		return w.take(lead{at, e.Place, w.cluster, byData}, times)
	case api.EntryPacked:
		if !w.take(lead{at, e.Place - e.Place%w.cluster, w.cluster, byPacked}, times) {
			return false
		}
		if w.unpacked(e) != int(w.cluster) {
			w.found(api.FindPacked, at)
		}
	}
	return true
}

// unpacked tells how many bytes packed bytes tell, at most a cluster's; 0, if they are refused.
// That is kept: all words of a table may lead to the same ones, which cost the more the shorter they are.
func (w *walk) unpacked(e api.Entry) int {
	many, known := w.packs[e]
	if !known {
		b, _, _ := deflate.Unpack(w.bytes(e.Place, int64(e.Len)), int(w.cluster))
		many = len(b)
		w.packs[e] = many
	}
	return many
}

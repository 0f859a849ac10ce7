package check

import "palimpsest/api"

// kind is what holds a cluster; a set of kinds is their bits together.
type kind int

const (
	byHead kind = 1 << iota
	byCounts
	byBlock
	byL1
	byL2
	byData
	byPacked
	byList
	byRow
)

// shared are the kinds of which several may hold one cluster, if they are all of one kind; all others hold theirs alone.
const shared = byL2 | byData | byPacked

// holding is how often a cluster is held, and by which kinds.
type holding struct {
	times uint64
	kinds kind
}

// twice tells whether a cluster is held by more than may hold it.
func (h holding) twice() bool {
	mixed := h.kinds&(h.kinds-1) != 0
	alone := h.kinds&^shared != 0
	return mixed || alone && h.times > 1
}

// lead is what leads to a run: where its place stands, the place, how many bytes it has, as which kind it holds these.
type lead struct {
	at, place, long int64
	by              kind
}

// take holds the clusters of a run so many times, if it lies within the file; else that is a find.
func (w *walk) take(l lead, times uint64) bool {
	if !w.within(l.place, l.long) {
		w.found(api.FindPlace, l.at)
		return false
	}
	for k := range w.touched(l.long) {
		w.hold(l.place/w.cluster+k, times, l.by)
	}
	return true
}

// hold holds a cluster so many times.
func (w *walk) hold(k int64, times uint64, by kind) {
	h := w.held[k]
	w.held[k] = holding{h.times + times, h.kinds | by}
}

// within tells whether so many bytes from a place on lie within the file. Nothing is added to the place itself: a huge one would wrap round.
func (w *walk) within(place, long int64) bool {
	return place > 0 && place%w.cluster == 0 && place/w.cluster+w.touched(long) <= w.whole
}

// touched tells how many clusters so many bytes touch from a cluster's begin on.
func (w *walk) touched(long int64) int64 { return (long + w.cluster - 1) / w.cluster }

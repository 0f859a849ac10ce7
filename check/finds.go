package check

import (
	"cmp"
	"maps"
	"slices"

	"palimpsest/api"
)

// found tells a find that has a place alone.
func (w *walk) found(what api.FindKind, at int64) { w.finds[api.Find{Kind: what, At: at}] = struct{}{} }

// differ tells a find of a cluster: how many holders there should be, or are; how many there are, or its count.
func (w *walk) differ(what api.FindKind, k int64, want, have uint64) {
	w.finds[api.Find{Kind: what, At: k * w.cluster, Want: want, Have: have}] = struct{}{}
}

// report tells what was found, in its order, and what the image has.
func (w *walk) report() api.Report {
	l := slices.SortedFunc(maps.Keys(w.finds), func(a, b api.Find) int {
		return cmp.Or(cmp.Compare(a.At, b.At), cmp.Compare(a.Kind, b.Kind))
	})
	return api.Report{
		Finds:    l,
		Broken:   slices.ContainsFunc(l, breaks),
		Clusters: w.whole,
		Held:     int64(len(w.held)),
		Data:     w.active[api.EntryData],
		Packed:   w.active[api.EntryPacked],
		Zero:     w.active[api.EntryZero],
	}
}

// breaks tells whether an image with that find is broken.
func breaks(f api.Find) bool { return f.Kind != api.FindLeak }

package regions

import (
	"iter"
	"slices"

	"palimpsest/api"
)

// list is regions in order, none over another one.
// What stands in a list is never written over, so iterators and copies share its memory. Its room is one holder's alone: whoever else holds a part of it holds it cut.
type list []api.Region

// cut is the first n of a list without room behind them: what is put there goes into new memory.
func (l list) cut(n int) list { return l[:n:n] }

// with is the list with more regions that may be, up to the first one that is refused, and how many these are.
func (l list) with(more []api.Region) (list, int, api.Errno) {
	alone := false
	for n, one := range more {
		i, no := l.place(one)
		if no != api.OK {
			return l, n, no
		}
		// One that is put between moves those behind it. Cut at its room, the list goes on in new memory, which is this call's alone: there they may move.
		if i < len(l) && !alone {
			l, alone = l.cut(len(l)), true
		}
		l = slices.Insert(l, i, one)
	}
	return l, len(more), api.OK
}

// without is the list without its region i.
func (l list) without(i int) list { return append(l.cut(i), l[i+1:]...) }

// place tells where in the list a region is to stand that may be.
func (l list) place(one api.Region) (int, api.Errno) {
	if len(l) == api.MaxRegions {
		return 0, api.ErrFull
	}
	i := l.beyond(one.At)
	if i < len(l) && l[i].At < end(one) {
		return 0, api.ErrLies
	}
	return i, api.OK
}

// begins tells which region begins at a place, if one does.
func (l list) begins(at int64) (int, bool) {
	i := l.beyond(at)
	return i, i < len(l) && l[i].At == at
}

// beyond tells which region is the first that ends beyond a place: those ahead of it do not matter to what lies there or behind.
func (l list) beyond(at int64) int {
	low, high := 0, len(l)
halving:
	for {
		half := (low + high) / 2
		switch {
		case low == high:
			break halving
		case end(l[half]) > at:
			high = half
		default:
			low = half + 1
		}
	}
	return low
}

// over tells the first region, of a kind without a mark, in which one of n bytes lies.
func (l list) over(at, n int64, out marks) (api.Region, bool) {
	// No bytes lie in no region, though their place may be within one.
	if n == 0 {
		return api.Region{}, false
	}
	for _, one := range l[l.beyond(at):] {
		if one.At >= at+n {
			break
		}
		if !out[one.Kind] {
			return one, true
		}
	}
	return api.Region{}, false
}

// free tells the least multiple of a step, from a place on, from which on n bytes lie in no region; they may go beyond MaxPlace.
func (l list) free(from, n, step int64) int64 {
	at := multiple(from, step)
	for _, one := range l[l.beyond(at):] {
		// Nothing is added to at or n: huge ones would wrap round. Of a region that a step went over, this is below 0.
		if one.At-at >= n {
			break
		}
		at = multiple(end(one), step)
	}
	return at
}

// gaps goes over the runs of bytes below a place, MaxPlace at most, that lie in no region.
func (l list) gaps(until int64) iter.Seq2[int64, int64] {
	return func(yield func(int64, int64) bool) {
		at := int64(0)
		for _, one := range l {
			if one.At >= until {
				break
			}
			if one.At > at && !yield(at, one.At-at) {
				return
			}
			at = end(one)
		}
		if at < until {
			yield(at, until-at)
		}
	}
}

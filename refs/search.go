package refs

import (
	"iter"

	"palimpsest/api"
	"palimpsest/counts"
)

// search tells the first one of n free clusters, one behind the other, which a file can have.
func (r *Refs) search(n int64) (int64, api.Errno) {
	size, no := r.asked()
	if no != api.OK {
		return 0, no
	}
	if no := r.sound(size); no != api.OK {
		return 0, no
	}
	find := r.finder(size, r.read)
	first, next := int64(0), int64(0) // from first up to next all are free
search:
	for i := range r.blocks {
		if r.home(i) >= api.MaxFile {
			break search
		}
		b, no := r.block(i, find)
		if no != api.OK {
			return 0, no
		}
		for from, to := range r.gaps(b, n) {
			if from += i * r.perBlock(); from != next {
				first = from
			}
			next = i*r.perBlock() + to
			if next-first >= n {
				break search
			}
		}
	}
	// No run lies ahead of this one: if it is too far for a file, so are all others.
	if next-first < n || (first+n)*r.cluster > api.MaxFile {
		return 0, api.ErrFull
	}
	return first, api.OK
}

// sound tells whether all blocks lie within the file: what is taken of an image must not hang on which block is looked at first.
func (r *Refs) sound(size int64) api.Errno {
	return r.places(r.read, func(place int64) api.Errno {
		if !r.within(place, size) {
			return api.ErrBroken
		}
		return api.OK
	})
}

// block is a block's bytes; of a missing one, as it would be made, so that its own cluster is kept.
func (r *Refs) block(i int64, find func(int64) (int64, api.Errno)) ([]byte, api.Errno) {
	place, no := find(i)
	if no != api.OK {
		return nil, no
	}
	if place == missing {
		return r.fresh(), api.OK
	}
	return r.read(place, int(r.cluster))
}

// gaps goes over the counts of a block that are 0, from one up to another, at most n at a time: no more of a long gap need be looked at than is asked for.
func (l layout) gaps(b []byte, n int64) iter.Seq2[int64, int64] {
	return func(yield func(from, to int64) bool) {
		for at := int64(0); ; {
			i, no := counts.Free(b, l.order, int(at), 1)
			if no != api.OK {
				return
			}
			from := int64(i)
			at = from + 1
			for at < l.perBlock() && at-from < n && l.isFree(b, at) {
				at++
			}
			if !yield(from, at) {
				return
			}
		}
	}
}

// isFree tells whether a count of a block is 0.
func (l layout) isFree(b []byte, i int64) bool {
	x, _ := counts.Get(b, l.order, int(i))
	return x == 0
}

package cow

import (
	"iter"

	"palimpsest/api"
)

// span is a range of a guest's bytes, with the guest's size and a cluster's bytes, as soon as these are known.
type span struct {
	at, n         int64
	size, cluster int64
}

// find lets a span know the size and a cluster's bytes.
func (d *Disk) find(s span) (span, api.Errno) {
	h, no := d.image.Head()
	if no != api.OK {
		return s, no
	}
	s.size, s.cluster = h.Size, 1<<h.Bits
	return s, api.OK
}

// sectors tells whether it can be a range at all.
func (s span) sectors() bool {
	return s.at >= 0 && s.n >= 0 && s.at%api.Sector == 0 && s.n%api.Sector == 0
}

// within tells whether it lies within the size. Nothing is added to the place: a huge one would wrap round.
func (s span) within() bool { return s.at <= s.size && s.n <= s.size-s.at }

// whole tells whether it is whole clusters from a cluster's begin on.
func (s span) whole() bool {
	end := s.at + s.n
	return s.at%s.cluster == 0 && (end%s.cluster == 0 || end == s.size)
}

// guest tells how many guest clusters there are.
func (s span) guest() int64 { return (s.size + s.cluster - 1) / s.cluster }

// part is what of a span lies in one guest cluster.
type part struct {
	span
	k int64
}

// parts goes over a span's parts.
func (s span) parts() iter.Seq[part] {
	return func(yield func(part) bool) {
		end := s.at + s.n
		for at := s.at; at < end; {
			k := at / s.cluster
			next := min((k+1)*s.cluster, end)
			if !yield(part{span{at, next - at, s.size, s.cluster}, k}) {
				return
			}
			at = next
		}
	}
}

// from tells where a part begins in its cluster.
func (p part) from() int64 { return p.at % p.cluster }

package store

import (
	"bytes"
	"iter"
	"maps"

	"palimpsest/api"
)

// sectors are bytes of a file, by the numbers of their sectors; one that is not there is noughts, so a file costs what was written to it, not its size. A sector's bytes never change (another one takes its place), so copies of a file share them.
type sectors map[int64][]byte

// put puts a piece over the bytes.
func (s sectors) put(p piece) {
	k := p.at / api.Sector
	if len(p.bytes) == api.Sector {
		s[k] = p.bytes
		return
	}
	sector := make([]byte, api.Sector)
	copy(sector, s[k])
	copy(sector[p.at%api.Sector:], p.bytes)
	s[k] = sector
}

// cut makes noughts of all that lies from size on.
func (s sectors) cut(size int64) {
	maps.DeleteFunc(s, func(k int64, _ []byte) bool { return k*api.Sector >= size })
	k := size / api.Sector
	if s[k] == nil {
		return
	}
	sector := make([]byte, api.Sector)
	copy(sector, s[k][:size%api.Sector])
	s[k] = sector
}

// same tells whether both have the same bytes.
func (s sectors) same(o sectors) bool { return s.within(o) && o.within(s) }

// within tells whether o has the bytes of each sector that is there.
func (s sectors) within(o sectors) bool {
	var noughts [api.Sector]byte
	for k, sector := range s {
		other := o[k]
		if other == nil {
			other = noughts[:]
		}
		if !bytes.Equal(sector, other) {
			return false
		}
	}
	return true
}

// cuts goes over the pieces of n bytes from at on, cut where sectors begin.
func cuts(at int64, n int) iter.Seq[api.Piece] {
	return func(yield func(api.Piece) bool) {
		end := at + int64(n)
		for from := at; from < end; {
			to := min(from-from%api.Sector+api.Sector, end)
			if !yield(api.Piece{At: from, Len: int(to - from)}) {
				return
			}
			from = to
		}
	}
}

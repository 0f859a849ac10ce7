package cow

import (
	"palimpsest/api"
	"palimpsest/deflate"
	"palimpsest/image"
)

// piece is bytes of the content that one entry tells, or that are nowhere.
type piece struct {
	api.Extent
	image   *image.Image // whose entry it is
	entry   api.Entry
	from    int64 // where it begins in its cluster
	cluster int64 // that one's bytes
}

// pieces lists the pieces of a range, behind those of list. Of what is not its own a disk asks the one below, and so on; what is beyond its size is nowhere.
func (d *Disk) pieces(list []piece, at, n int64, depth int) ([]piece, api.Errno) {
	if d == nil || d.image == nil {
		return nowhere(list, at, n), api.OK
	}
	if n == 0 {
		return list, api.OK
	}
	s, no := d.find(span{at: at, n: n})
	if no != api.OK {
		return nil, no
	}
	s.n = min(max(s.size-at, 0), n)
	open, end := at, at+s.n // from open on nothing is listed so far
	for p := range s.parts() {
		e, no := d.image.Entry(p.k)
		if no != api.OK {
			return nil, no
		}
		if e.Kind == api.EntryNone {
			continue
		}
		if list, no = d.below.pieces(list, open, p.at-open, depth+1); no != api.OK {
			return nil, no
		}
		x := api.Extent{At: p.at, Len: p.n, Kind: e.Kind, Depth: depth}
		list = append(list, piece{x, d.image, e, p.from(), p.cluster})
		open = p.at + p.n
	}
	if list, no = d.below.pieces(list, open, end-open, depth+1); no != api.OK {
		return nil, no
	}
	return nowhere(list, end, n-s.n), api.OK
}

// nowhere lists bytes that are nowhere, behind the pieces of list.
func nowhere(list []piece, at, n int64) []piece {
	if n == 0 {
		return list
	}
	return append(list, piece{Extent: api.Extent{At: at, Len: n}})
}

// told is n bytes of the content from a place on, of which these are the pieces.
func told(list []piece, at, n int64) ([]byte, api.Errno) {
	b := make([]byte, n)
	for _, p := range list {
		if no := p.tell(b[p.At-at:][:p.Len]); no != api.OK {
			return nil, no
		}
	}
	return b, api.OK
}

// tell puts a piece's bytes into as many that are noughts.
func (p piece) tell(b []byte) api.Errno {
	kinds := [...]func(piece, []byte) api.Errno{
		api.EntryNone:   piece.noughts,
		api.EntryZero:   piece.noughts,
		api.EntryData:   piece.data,
		api.EntryPacked: piece.packed,
	}
	return kinds[p.Kind](p, b)
}

// noughts tells what is nowhere, or noughts.
func (p piece) noughts([]byte) api.Errno { return api.OK }

// data tells bytes of a cluster.
func (p piece) data(b []byte) api.Errno {
	have, no := p.image.Read(p.entry.Place+p.from, len(b))
	copy(b, have)
	return no
}

// packed tells bytes of those that are packed.
func (p piece) packed(b []byte) api.Errno {
	have, no := p.unpacked()
	if no != api.OK {
		return no
	}
	copy(b, have[p.from:])
	return api.OK
}

// unpacked is the whole guest cluster of which packed bytes tell.
func (p piece) unpacked() ([]byte, api.Errno) {
	have, no := p.image.Read(p.entry.Place, p.entry.Len)
	if no != api.OK {
		return nil, no
	}
	b, _, no := deflate.Unpack(have, int(p.cluster))
	if no != api.OK || int64(len(b)) != p.cluster {
		return nil, api.ErrBroken
	}
	return b, api.OK
}

// mapped puts pieces together that are told alike. Where packed bytes cannot be unpacked there is no content to be told of.
func mapped(list []piece) ([]api.Extent, api.Errno) {
	var all []api.Extent
	for _, p := range list {
		if p.Kind == api.EntryPacked {
			if _, no := p.unpacked(); no != api.OK {
				return nil, no
			}
		}
		if last := len(all) - 1; last >= 0 && how(all[last]) == how(p.Extent) {
			all[last].Len += p.Len
			continue
		}
		all = append(all, p.Extent)
	}
	return all, api.OK
}

// how is what is told of a piece, wherever it lies.
func how(x api.Extent) api.Extent { return api.Extent{Kind: x.Kind, Depth: x.Depth} }

package store

import (
	"bytes"
	"maps"
	"slices"

	"palimpsest/api"
)

// piece is bytes within one sector that were written, and not flushed. Its bytes never change, so copies of a file share them.
type piece struct {
	at    int64
	bytes []byte
}

// end is where a piece ends.
func (p piece) end() int64 { return p.at + int64(len(p.bytes)) }

// same tells whether two pieces say the same.
func (p piece) same(o piece) bool { return p.at == o.at && bytes.Equal(p.bytes, o.bytes) }

// file is a file: its size, its lasting bytes, its pieces. Over are the sectors in which pieces lie, as they are read: a read need not go through all pieces.
type file struct {
	size   int64
	lasts  sectors
	over   sectors
	pieces []piece
}

// newFile is a file of no bytes.
func newFile() *file { return &file{lasts: sectors{}, over: sectors{}} }

// read tells n bytes from at on, all of which are there.
func (f *file) read(at int64, n int) []byte {
	b := make([]byte, n)
	for p := range cuts(at, n) {
		k := p.At / api.Sector
		sector := f.over[k]
		if sector == nil {
			sector = f.lasts[k]
		}
		// Of a sector that is not there noughts are told, as b has them.
		if sector != nil {
			copy(b[p.At-at:][:p.Len], sector[p.At%api.Sector:])
		}
	}
	return b
}

// write writes a piece.
func (f *file) write(at int64, b []byte) {
	p := piece{at, bytes.Clone(b)}
	f.pieces = append(f.pieces, p)
	f.size = max(f.size, p.end())
	k := at / api.Sector
	if f.over[k] == nil && f.lasts[k] != nil {
		f.over[k] = f.lasts[k]
	}
	f.over.put(p)
}

// flush lets the first n pieces last.
func (f *file) flush(n int) {
	for _, p := range f.pieces[:n] {
		f.lasts.put(p)
	}
	// Into new room: the old one would keep the bytes of those that last.
	f.pieces = append([]piece(nil), f.pieces[n:]...)
	// What is read stays as it was, so over may stay while there are pieces.
	if len(f.pieces) == 0 {
		f.over = sectors{}
	}
}

// resize sets the size.
func (f *file) resize(size int64) {
	if size < f.size {
		f.lasts.cut(size)
		f.over.cut(size)
		f.pieces = cutPieces(f.pieces, size)
	}
	f.size = size
}

// cutPieces is what is left of pieces below a size.
func cutPieces(pieces []piece, size int64) []piece {
	var left []piece
	for _, p := range pieces {
		if p.at >= size {
			continue
		}
		n := min(p.end(), size) - p.at
		left = append(left, piece{p.at, p.bytes[:n]})
	}
	return left
}

// places tells where the pieces lie.
func (f *file) places() []api.Piece {
	list := make([]api.Piece, 0, len(f.pieces))
	for _, p := range f.pieces {
		list = append(list, api.Piece{At: p.at, Len: len(p.bytes)})
	}
	return list
}

// crashed is the file that a crash leaves, if pick tells of one piece after the other whether it lasts.
func (f *file) crashed(pick func() bool) *file {
	left := &file{size: f.size, lasts: maps.Clone(f.lasts), over: sectors{}}
	for _, p := range f.pieces {
		if pick() {
			left.lasts.put(p)
		}
	}
	return left
}

// another is a file that is as this one, and goes on apart.
func (f *file) another() *file {
	return &file{f.size, maps.Clone(f.lasts), maps.Clone(f.over), slices.Clone(f.pieces)}
}

// same tells whether two files have the same lasting bytes, and the same pieces.
func (f *file) same(o *file) bool {
	return f.size == o.size && f.lasts.same(o.lasts) && slices.EqualFunc(f.pieces, o.pieces, piece.same)
}

package head

import (
	"palimpsest/api"
	"palimpsest/wire"
)

const (
	mark   = "PAL1"
	nameAt = 84 // the backing's name
	endAt  = nameAt + 4 + api.MaxName
)

// field is a number of the sector: its place, its bytes, and how the head tells and keeps it.
type field struct {
	at, wide int
	tell     func() uint64
	keep     func(uint64)
}

// number is a number of a head, of whatever type.
type number[T int | int64 | uint64] struct {
	of *T
}

func (n number[T]) tell() uint64  { return uint64(*n.of) }
func (n number[T]) keep(x uint64) { *n.of = T(x) }

// at makes a field of a head's number.
func at[T int | int64 | uint64](place, wide int, of *T) field {
	n := number[T]{of}
	return field{place, wide, n.tell, n.keep}
}

// fields tells the numbers of a head, which they are kept in and told out of.
func fields(h *api.Head) []field {
	return []field{
		at(4, 4, &h.Bits),
		at(8, 8, &h.Flags),
		at(16, 8, &h.Size),
		at(24, 8, &h.L1),
		at(32, 4, &h.L1Len),
		at(36, 4, &h.Order),
		at(40, 8, &h.Counts),
		at(48, 4, &h.CountsLen),
		at(52, 4, &h.Snaps),
		at(56, 8, &h.SnapsAt),
		at(64, 4, &h.SnapsLen),
		at(68, 4, &h.Bitmaps),
		at(72, 8, &h.BitmapsAt),
		at(80, 4, &h.BitmapsLen),
	}
}

// sector tells the bytes of a head that may be: then all numbers fit, and the name.
func sector(h api.Head) []byte {
	b := make([]byte, api.Sector)
	copy(b, mark)
	for _, f := range fields(&h) {
		wire.Set(b, f.at, f.wide, f.tell())
	}
	wire.SetText(b, nameAt, api.MaxName, h.Backing)
	return b
}

// taken tells the head whose sector the first bytes are; if they are none's, the zero head, which may not be.
func taken(b []byte) api.Head {
	noughts := func(from, until int) bool {
		bare, _ := wire.Noughts(b, from, until)
		return bare
	}
	// A sector ends with noughts: it is all there, if these are.
	if !noughts(endAt, api.Sector) || string(b[:len(mark)]) != mark {
		return api.Head{}
	}
	h := api.Head{}
	for _, f := range fields(&h) {
		x, _ := wire.Get(b, f.at, f.wide)
		f.keep(x)
	}
	name, e := wire.Text(b, nameAt, api.MaxName)
	h.Backing = name
	if e != api.OK || !may(h) {
		return api.Head{}
	}
	return h
}

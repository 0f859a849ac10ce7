package image

import (
	"palimpsest/api"
	"palimpsest/head"
	"palimpsest/store"
)

const (
	wide    = 8 // bytes of a place, or of an entry, in a table
	perByte = 8 // bits of a byte
)

// Of the head of an image that is to be made, as long as it is not known how its parts lie: numbers that may stand in each head.
const (
	anyPlace = 1 << 16
	anyLen   = 1 << 20
)

// Create makes an image: P17.1.
func Create(s *store.Store, name string, m api.Make) api.Errno {
	if s.Same(nil) {
		return api.ErrNil
	}
	p, no := planned(m)
	if no != api.OK {
		return no
	}
	b, no := head.Bytes(p.head)
	if no != api.OK {
		return no
	}
	f := file{s, name}
	no, failed := faced(func() api.Errno {
		create := func() api.Errno { return s.Create(name) }
		// It is no image till the head is there, and that one comes last.
		return f.done(create, f.write(p.cluster, p.bytes()), f.flush, f.write(0, b), f.flush)
	})
	if failed {
		// What is left of it would only stand in the way of making it once more.
		s.Remove(name)
	}
	return no
}

// plan is how the parts of a new image lie behind the head's cluster: the counts' table, its blocks, the L1 table.
type plan struct {
	head     api.Head
	cluster  int64
	perBlock int64 // counts
	blocks   int64
	used     int64 // clusters, the head's too
}

// planned is the plan of an image, if there may be such a one.
func planned(m api.Make) (plan, api.Errno) {
	h := api.Head{Bits: m.Bits, Size: m.Size, L1: anyPlace, L1Len: anyLen, Order: m.Order, Counts: anyPlace, CountsLen: 1, Backing: m.Backing}
	if no := head.Check(h); no != api.OK {
		return plan{}, no
	}
	p := plan{head: h, cluster: head.Cluster(h)}
	p.perBlock = p.cluster * perByte >> h.Order
	room := 4*head.Guest(h) + 1024
	table := parts(parts(room, p.perBlock)*wide, p.cluster)
	l1 := parts(head.Tables(h)*wide, p.cluster)
	// The blocks tell of themselves, too.
	for p.used > p.blocks*p.perBlock || p.blocks == 0 {
		p.blocks++
		p.used = 1 + table + p.blocks + l1
	}
	p.head.Counts, p.head.CountsLen = p.cluster, int(table)
	p.head.L1, p.head.L1Len = 0, int(head.Tables(h))
	if l1 > 0 {
		p.head.L1 = (p.used - l1) * p.cluster
	}
	return p, api.OK
}

// bytes is all that lies behind the head's cluster.
func (p plan) bytes() []byte {
	b := make([]byte, p.used*p.cluster)
	first := (1 + int64(p.head.CountsLen)) * p.cluster
	for i := range p.blocks {
		copy(b[p.head.Counts+i*wide:], word(first+i*p.cluster))
	}
	// A count of 1 is its lowest bit; those of one block behind the other stand in one row.
	for k := range p.used {
		bit := k << p.head.Order
		b[first+bit/perByte] |= 1 << (bit % perByte)
	}
	return b[p.cluster:]
}

// parts tells how many parts of a size make up x, the last one whole or not.
func parts(x, size int64) int64 { return (x + size - 1) / size }

// number is bytes as a place, the lowest byte first; one that is too great for a place is below 0.
func number(b []byte) int64 {
	x := uint64(0)
	for i, c := range b {
		x |= uint64(c) << (perByte * i)
	}
	return int64(x)
}

// word is the bytes of a place.
func word(place int64) []byte {
	b := make([]byte, wide)
	for i := range b {
		b[i] = byte(place >> (perByte * i))
	}
	return b
}

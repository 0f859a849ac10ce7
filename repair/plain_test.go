package repair

import (
	"bytes"
	"encoding/binary"
	"testing"

	"palimpsest/api"
	"palimpsest/check"
	"palimpsest/head"
	"palimpsest/store"
)

// plain reckons an image's counts bit by bit, by the document's words.
type plain struct {
	b []byte
	h api.Head
	c int64 // bytes of a cluster
}

// read is the plain way over the bytes of an image, which it changes if counts are set.
func read(b []byte) *plain {
	h, no := head.Read(b)
	if no != api.OK {
		panic("no head")
	}
	return &plain{b, h, 1 << h.Bits}
}

// word is the word at a place.
func (p *plain) word(at int64) uint64 { return binary.LittleEndian.Uint64(p.b[at:]) }

// per tells how many counts a block has.
func (p *plain) per() int64 { return p.c * 8 >> p.h.Order }

// most is the greatest count.
func (p *plain) most() uint64 { return ^uint64(0) >> (64 - 1<<p.h.Order) }

// block tells where a cluster's block is, if it is there.
func (p *plain) block(k int64) (int64, bool) {
	at := p.h.Counts + k/p.per()*8
	if at >= p.h.Counts+int64(p.h.CountsLen)*p.c || at+8 > int64(len(p.b)) {
		return 0, false
	}
	place := p.word(at)
	return int64(place), place > 0 && place%uint64(p.c) == 0 && place/uint64(p.c) < uint64(len(p.b))/uint64(p.c)
}

// count tells a cluster's count, if a block has it.
func (p *plain) count(k int64) (uint64, bool) {
	place, is := p.block(k)
	if !is {
		return 0, false
	}
	x, width := uint64(0), int64(1)<<p.h.Order
	for i := range width {
		bit := k%p.per()*width + i
		x |= uint64(p.b[place+bit/8]>>(bit%8)&1) << i
	}
	return x, true
}

// set sets a count, whose block is there.
func (p *plain) set(k int64, x uint64) {
	place, is := p.block(k)
	if !is {
		panic("no block")
	}
	width := int64(1) << p.h.Order
	for i := range width {
		bit := k%p.per()*width + i
		p.b[place+bit/8] &^= 1 << (bit % 8)
		p.b[place+bit/8] |= byte(x>>i&1) << (bit % 8)
	}
}

// clusters goes over the clusters of which blocks tell.
func (p *plain) clusters(yield func(k int64) bool) {
	for at := int64(0); at < int64(p.h.CountsLen)*p.c/8; at++ {
		if _, is := p.block(at * p.per()); !is {
			continue
		}
		for k := at * p.per(); k < (at+1)*p.per(); k++ {
			if !yield(k) {
				return
			}
		}
	}
}

// mendable tells why an image can't be mended, if so.
func (p *plain) mendable(held map[int64]uint64) api.Errno {
	r, no := check.Bytes(p.b)
	if no != api.OK {
		return no
	}
	for _, f := range r.Finds {
		if f.Kind != api.FindLow && f.Kind != api.FindLeak {
			return api.ErrBroken
		}
	}
	why := api.OK
	for k, n := range held {
		if _, is := p.count(k); !is {
			return api.ErrBroken
		}
		if n > p.most() {
			why = api.ErrFull
		}
	}
	return why
}

// wrong tells how often counts are too low, how often too high.
func (p *plain) wrong(held map[int64]uint64) (low, leaks int) {
	for k := range p.clusters {
		switch x, _ := p.count(k); {
		case x < held[k]:
			low++
		case x > held[k]:
			leaks++
		}
	}
	return low, leaks
}

// reckoned is what Repair is to tell of bytes, and to make of them.
func reckoned(t testing.TB, b []byte) ([]byte, api.Fixed, api.Errno) {
	t.Helper()
	if _, no := head.Read(b); no != api.OK {
		return b, api.Fixed{}, api.ErrHead
	}
	held, no := check.Holders(b)
	want(t, no, api.OK)
	p := read(bytes.Clone(b))
	if no := p.mendable(held); no != api.OK {
		return b, api.Fixed{}, no
	}
	f := api.Fixed{Dirty: p.b[8] == 1}
	f.Low, f.Leaks = p.wrong(held)
	for k := range p.clusters {
		p.set(k, held[k])
	}
	p.b[8] = 0
	return p.b, f, api.OK
}

// mended lets the image of a store be mended, and holds all that is told, and all bytes of its file, against the plain way; another file stays as it is.
func mended(t testing.TB, s *store.Store) (api.Fixed, api.Errno) {
	t.Helper()
	after, should, why := reckoned(t, whole(t, s))
	could(t, s, should, why)
	if why != api.OK {
		unchanged(t, s, func() { repaired(t, s, should, why) })
		return should, why
	}
	other, _ := s.Read("another", 0, 1<<28)
	repaired(t, s, should, why)
	sameBytes(t, whole(t, s), after)
	right(t, s)
	if b, _ := s.Read("another", 0, 1<<28); !bytes.Equal(b, other) {
		t.Fatal("another file has changed")
	}
	return should, why
}

// could asks what can be mended.
func could(t testing.TB, s *store.Store, should api.Fixed, why api.Errno) {
	t.Helper()
	unchanged(t, s, func() {
		if f, no := Could(s, name); f != should || no != why {
			t.Fatalf("Could: %v %v, want %v %v", f, no, should, why)
		}
	})
}

// repaired lets the image be mended.
func repaired(t testing.TB, s *store.Store, should api.Fixed, why api.Errno) {
	t.Helper()
	if f, no := Repair(s, name); f != should || no != why {
		t.Fatalf("Repair: %v %v, want %v %v", f, no, should, why)
	}
}

// right holds that nothing is found in an image, that it is not dirty, that all of this lasts, and that nothing is left to be mended.
func right(t testing.TB, s *store.Store, said ...any) {
	t.Helper()
	if s.Pending() != 0 {
		t.Fatal("it does not last", s.Pending(), said)
	}
	r, no := check.Check(s, name)
	if no != api.OK || len(r.Finds) > 0 || r.Broken {
		t.Fatal(no, r, said)
	}
	if read(whole(t, s)).h.Flags != 0 {
		t.Fatal("dirty", said)
	}
	unchanged(t, s, func() {
		could(t, s, api.Fixed{}, api.OK)
		repaired(t, s, api.Fixed{}, api.OK)
	})
}

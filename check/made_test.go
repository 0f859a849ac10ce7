package check

import (
	"bytes"
	"encoding/binary"
	"testing"

	"palimpsest/api"
	"palimpsest/deflate"
	"palimpsest/head"
	"palimpsest/tables"
)

// Where the clusters of a made image lie, by their numbers.
const (
	inHead = iota
	inCounts
	inBlock
	inL1
	inL2
	inShared // an L2 table that both snapshots lead to, too
	inData
	inOther // data that both snapshots hold, too
	inPacked
	inSnaps
	inOneL1
	inTwoL1
	inBitmaps
	inRow
	inRowToo
	inFree
	made // how many there are
)

// picture is an image's bytes that are being made, and what they are to be.
type picture struct {
	b    []byte
	c    int64 // bytes of a cluster
	h    api.Head
	used int // how many bytes the first packed piece has
}

// at is where a cluster of a picture begins.
func (p *picture) at(k int64) int64 { return k * p.c }

// word puts 8 bytes.
func (p *picture) word(at int64, x uint64) { binary.LittleEndian.PutUint64(p.b[at:], x) }

// clone is another one, which goes on apart.
func (p *picture) clone() *picture {
	q := *p
	q.b = bytes.Clone(p.b)
	return &q
}

// seal writes the head, whatever the first sector was.
func (p *picture) seal(t testing.TB) {
	t.Helper()
	s, no := head.Bytes(p.h)
	if no != api.OK {
		t.Fatal("no head", no, p.h)
	}
	copy(p.b, s)
}

// list writes the lists of snapshots and bitmaps, and what the head says of them.
func (p *picture) list(t testing.TB, snaps []api.Snap, rows []api.Row) {
	t.Helper()
	s, no := tables.Snaps(p.h.Bits, snaps...)
	r, bad := tables.Rows(p.h.Bits, rows...)
	if no != api.OK || bad != api.OK {
		t.Fatal(no, bad)
	}
	if p.h.Snaps, p.h.SnapsAt, p.h.SnapsLen = len(snaps), p.at(inSnaps), len(s); len(snaps) == 0 {
		p.h.SnapsAt = 0
	}
	if p.h.Bitmaps, p.h.BitmapsAt, p.h.BitmapsLen = len(rows), p.at(inBitmaps), len(r); len(rows) == 0 {
		p.h.BitmapsAt = 0
	}
	copy(p.b[p.at(inSnaps):], s)
	copy(p.b[p.at(inBitmaps):], r)
	p.seal(t)
}

// data, packed are words of entries.
func data(place int64) uint64             { return uint64(place) | 2 }
func packed(place int64, long int) uint64 { return uint64(place)<<16 | uint64(long)<<2 | 3 }

// pack is a guest cluster packed: all bytes x.
func pack(t testing.TB, c int64, x byte) []byte {
	t.Helper()
	b, no := deflate.Pack(bytes.Repeat([]byte{x}, int(c)), 2)
	if no != api.OK {
		t.Fatal(no)
	}
	return b
}

// drawn is a picture with all that an image may have, whose counts are its holders.
func drawn(t testing.TB, bits, order int) *picture {
	t.Helper()
	c := int64(1) << bits
	p := &picture{b: make([]byte, made*c), c: c}
	p.h = api.Head{Bits: bits, Size: 3 * c, L1: p.at(inL1), L1Len: 3, Order: order, Counts: p.at(inCounts), CountsLen: 1}
	p.word(p.at(inCounts), uint64(p.at(inBlock)))
	p.word(p.at(inL1), uint64(p.at(inL2)))
	p.word(p.at(inL1)+16, uint64(p.at(inShared)))
	p.word(p.at(inL2), data(p.at(inData)))
	p.word(p.at(inL2)+8, 1)
	p.word(p.at(inShared)+8, data(p.at(inOther)))
	p.word(p.at(inShared)+c-8, 1)
	x, y := pack(t, c, 'x'), pack(t, c, 'y')
	p.used = len(x)
	copy(p.b[p.at(inPacked)+3:], x)
	copy(p.b[p.at(inPacked)+c-int64(len(y)):], y)
	p.word(p.at(inL2)+32, packed(p.at(inPacked)+3, len(x)))
	p.word(p.at(inL2)+40, packed(p.at(inPacked)+c-int64(len(y)), len(y)))
	p.word(p.at(inOneL1), uint64(p.at(inShared)))
	p.word(p.at(inTwoL1)+8, uint64(p.at(inShared)))
	for i := range c {
		p.b[p.at(inData)+i], p.b[p.at(inOther)+i] = byte(i+7), byte(3*i)
	}
	p.list(t, []api.Snap{{Name: "one", L1: p.at(inOneL1), L1Len: 1, Size: c}, {Name: "two", L1: p.at(inTwoL1), L1Len: 2, Size: 512}},
		[]api.Row{{Name: "r", Gran: 9, Flags: 2, At: p.at(inRow), Len: int(c) + 1}, {Name: "s", Gran: 16}})
	p.settle()
	return p
}

// settle sets the counts of the one block to how many holders there are, or as many of these as fit.
func (p *picture) settle() {
	clear(p.b[p.at(inBlock) : p.at(inBlock)+p.c])
	for k, l := range plainly(p.b).holders {
		p.count(k, uint64(len(l)))
	}
}

// count sets a count of the one block, bit by bit, to as much of x as fits.
func (p *picture) count(k int64, x uint64) {
	width := int64(1) << p.h.Order
	for i := range width {
		bit := k*width + i
		where := p.at(inBlock) + bit/8
		p.b[where] &^= 1 << (bit % 8)
		p.b[where] |= byte(x>>i&1) << (bit % 8)
	}
}

// told is a report of bytes, which must have a head, held against the plain reckoning.
func told(t testing.TB, b []byte) api.Report {
	t.Helper()
	room := append(bytes.Clone(b), "spare room that is not its own"...)
	was := bytes.Clone(room)
	r, no := Bytes(room[:len(b)])
	if no != api.OK {
		t.Fatal("refused", no)
	}
	same(t, b, r)
	m, no := Holders(room[:len(b)])
	if no != api.OK {
		t.Fatal("refused", no)
	}
	sameHolders(t, b, m)
	if !bytes.Equal(room, was) {
		t.Fatal("bytes have changed")
	}
	return r
}

// want holds one against another.
func want(t testing.TB, have, want api.Errno) {
	t.Helper()
	if have != want {
		t.Errorf("%v, want %v", have, want)
	}
}

// P15.1: of an image that is right nothing is found, of each size of clusters and each width of counts.
func TestNothingIsFound(t *testing.T) {
	for bits := 9; bits <= 16; bits++ {
		for order := 2; order <= 6; order++ {
			p := drawn(t, bits, order)
			r := told(t, p.b)
			if len(r.Finds) != 0 || r.Broken || r.Clusters != made || r.Held != made-1 || r.Data != 2 || r.Packed != 2 || r.Zero != 2 {
				t.Fatal(bits, order, r)
			}
		}
	}
}

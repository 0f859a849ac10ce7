package refs

import (
	"encoding/binary"
	"math"
	"testing"

	"palimpsest/api"
)

// P16.1: the first and the last cluster of the room, those beyond it, and those that no block tells of.
func TestCountInTheRoom(t *testing.T) {
	for order := range 7 {
		p := right(t, 9, order, 2)
		per, room := int64(4096>>order), int64(128*4096>>order)
		p.grown(8)
		p.block(127, 5)
		p.block(3, 6)
		most := ^uint64(0) >> (64 - 1<<order)
		for k, x := range map[int64]uint64{7: most, per - 1: 1, 3 * per: most, 4*per - 2: 1, room - 1: most, room - per: 1} {
			p.count(k, x)
		}
		s, r := p.opened(t)
		unchanged(t, s, func() {
			for k, x := range map[int64]uint64{
				0: 1, 1: 1, 3: 1, 4: 0, 7: most, 8: 0, per - 2: 0, per - 1: 1, // a block that tells of itself
				per: 0, 2*per - 1: 0, 2 * per: 0, 100 * per: 0, 127*per - 1: 0, // missing blocks
				3 * per: most, 4*per - 2: 1, 4*per - 1: 0, room - per: 1, room - 2: 0, room - 1: most, // blocks that lie elsewhere
			} {
				counted(t, r, k, x)
			}
			for _, k := range []int64{-1, room, room + 1, 2 * room, math.MaxInt64, math.MinInt64, -room} {
				uncounted(t, r, k, api.ErrRange)
			}
		})
	}
}

// P16.1: each count of whole blocks, of all widths, against its bits.
func TestCountEach(t *testing.T) {
	for bits := 9; bits <= 11; bits++ {
		for order := range 7 {
			p := right(t, bits, order, 1).grown(5)
			p.block(1, 3)
			for i := range 2 * p.c {
				p.b[2*p.c+i] = byte(i*i*7 + i>>8*13 + 3*i)
			}
			s, r := p.opened(t)
			w := reckon(p.h, p.b)
			unchanged(t, s, func() {
				for k := range 3 * w.per {
					x, _ := w.count(k)
					counted(t, r, k, x)
				}
			})
		}
	}
}

// P16.1: where a block's place lies, and where it does not.
func TestCountOfPlaces(t *testing.T) {
	for _, bits := range []int{9, 11, 16} {
		c := uint64(1) << bits
		for _, tail := range []int{0, 1, int(c) - 1} {
			p := right(t, bits, 4, 1).grown(6)
			p.b = append(p.b, make([]byte, tail)...)
			per := p.c / 2
			for i, row := range []struct {
				place uint64
				no    api.Errno
			}{
				{0, api.OK}, {c, api.OK}, {5 * c, api.OK}, // the last whole cluster
				{1, api.ErrBroken}, {c - 1, api.ErrBroken}, {c / 2, api.ErrBroken}, {8, api.ErrBroken}, // below the first cluster behind the head
				{2*c + 1, api.ErrBroken}, {2*c + 256, api.ErrBroken}, {3*c - 1, api.ErrBroken},
				{6 * c, api.ErrBroken}, {6*c - 1, api.ErrBroken}, {7 * c, api.ErrBroken}, // not whole, or behind the end
				{api.MaxFile, api.ErrBroken}, {1 << 40, api.ErrBroken}, {1 << 62, api.ErrBroken},
				{1 << 63, api.ErrBroken}, {1<<63 + 2*c, api.ErrBroken}, {-c, api.ErrBroken}, {math.MaxUint64, api.ErrBroken}, {math.MaxInt64 - c + 1, api.ErrBroken},
			} {
				p.lead(7, row.place)
				s, r := p.opened(t)
				for _, k := range []int64{7 * per, 7*per + 1, 8*per - 1} {
					if x, no := r.Count(k); no != row.no || no != api.OK && x != 0 {
						t.Fatalf("Bits %d, row %d, cluster %d: %d, %v", bits, i, k, x, no)
					}
				}
				counted(t, r, 7*per-1, 0)
				counted(t, r, 8*per, 0)
				counted(t, r, 2, 1)
				if row.no == api.OK {
					continue
				}
				unchanged(t, s, func() {
					want(t, r.Add(1, 7*per+3), row.no)
					want(t, r.Add(1, 2, 4, 8*per-1, 5), row.no)
					want(t, r.Add(-1, 2, 7*per), row.no)
					want(t, r.Free(int64(c)*7*per, 1), row.no)
					untaken(t, r, 1, row.no)
					untaken(t, r, 1<<20, row.no)
				})
				// Of other blocks nothing speaks against it.
				want(t, r.Add(1, 2, 4), api.OK)
				if 10*per*p.c < api.MaxFile {
					want(t, r.Add(1, 9*per+1), api.OK)
					counted(t, r, 9*per+1, 1)
				}
			}
		}
	}
}

// P16.1: of a counts' table that the file has not, or not all of.
func TestCountOfNoTable(t *testing.T) {
	p := right(t, 9, 6, 2)
	for _, at := range []int64{4, 5, 1000, api.MaxFile / 512} {
		q := *p
		q.h.Counts = at * 512
		q.b = append([]byte{}, p.b...)
		copy(q.b, drawn(t, 9, 6, at, 2, 1).b)
		s, r := q.opened(t)
		unchanged(t, s, func() {
			for _, k := range []int64{0, 63, 64, 8191} {
				uncounted(t, r, k, api.ErrBroken)
				want(t, r.Add(1, k), api.ErrBroken)
				want(t, r.Add(-1, k), api.ErrBroken)
			}
			untaken(t, r, 1, api.ErrBroken)
			uncounted(t, r, 8192, api.ErrRange)
			want(t, r.Add(1), api.OK)
		})
	}
	// Of the table's second cluster there are 16 bytes.
	q := drawn(t, 9, 6, 3, 2, 5)
	q.block(0, 2)
	q.block(64, 1)
	for k := range int64(5) {
		q.count(k, 1)
	}
	q.b = q.b[:4*512+16]
	s, r := q.opened(t)
	unchanged(t, s, func() {
		counted(t, r, 0, 1)
		counted(t, r, 64, 0)
		counted(t, r, 64*64, 0)
		counted(t, r, 66*64-1, 0)
		uncounted(t, r, 66*64, api.ErrBroken)
		uncounted(t, r, 128*64-1, api.ErrBroken)
		untaken(t, r, 1, api.ErrBroken)
		want(t, r.Add(1, 64), api.ErrBroken)
	})
	want(t, r.Add(1, 9), api.OK)
	counted(t, r, 9, 1)
}

// Words: nothing is remembered; what others write to the file is what is told.
func TestNothingIsRemembered(t *testing.T) {
	p := right(t, 9, 4, 1).grown(5)
	s, r := p.opened(t)
	twin := open(t, s)
	counted(t, r, 9, 0)
	want(t, s.Write(file, 2*512+18, []byte{3, 2}), api.OK)
	counted(t, r, 9, 0x203)
	want(t, twin.Add(1, 9), api.OK)
	counted(t, r, 9, 0x204)
	want(t, r.Add(-1, 9), api.OK)
	counted(t, twin, 9, 0x203)
	// The first block is moved, and then there is none.
	want(t, s.Write(file, 4*512, append(make([]byte, 18), 7)), api.OK)
	want(t, s.Write(file, 512, binary.LittleEndian.AppendUint64(nil, 4*512)), api.OK)
	counted(t, r, 9, 7)
	counted(t, r, 0, 0)
	want(t, s.Write(file, 512, make([]byte, 8)), api.OK)
	counted(t, r, 9, 0)
	want(t, s.Write(file, 512, binary.LittleEndian.AppendUint64(nil, 2*512)), api.OK)
	counted(t, r, 9, 0x203)
	// A file that is cut, and grows again.
	want(t, s.Resize(file, 2*512+511), api.OK)
	uncounted(t, r, 0, api.ErrBroken)
	want(t, s.Resize(file, 3*512), api.OK)
	counted(t, r, 9, 0x203)
	// Another file of that name.
	want(t, s.Remove(file), api.OK)
	uncounted(t, r, 0, api.ErrNone)
	want(t, s.Create(file), api.OK)
	uncounted(t, r, 0, api.ErrBroken)
	want(t, s.Write(file, 0, p.b), api.OK)
	counted(t, r, 2, 1)
	// What twins take, they do not take twice.
	a, b := took(t, r, 2), took(t, twin, 2)
	if a <= b+1 && b <= a+1 {
		t.Error(a, b)
	}
}

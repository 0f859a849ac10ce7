package repair

import (
	"testing"

	"palimpsest/api"
	"palimpsest/check"
)

// broken lets an image be refused, as it is, dirty, and with counts that could be mended beside.
func broken(t testing.TB, p *picture, why api.Errno, kinds ...api.FindKind) {
	t.Helper()
	r, no := check.Bytes(p.b)
	want(t, no, api.OK)
	for _, kind := range kinds {
		found := false
		for _, f := range r.Finds {
			found = found || f.Kind == kind
		}
		if !found {
			t.Fatal("not found", kind, r.Finds)
		}
	}
	list := []*picture{p, p.dirty()}
	if _, is := read(p.b).count(0); is {
		list = append(list, p.bent(0, 0), p.bent(25, 1), p.bent(1, 0, 26, 1, 27, 1).dirty())
	}
	for _, q := range list {
		s := q.laid()
		unchanged(t, s, func() { _, no = mended(t, s) })
		want(t, no, why)
	}
}

// guest is an image with data, whose one L2 table is at the place that is told, and is bent by the caller.
func guest(t testing.TB, bits, order int) (p *picture, table int64) {
	t.Helper()
	p = drawn(t, bits, order, 30)
	words := make([]uint64, p.c/8)
	words[0], words[1], words[2] = p.filled('a'), 1, p.pieces('p')[0]
	table = p.table(words...)
	p.root(uint64(table))
	p.grown(14)
	return p.sealed(), table
}

// P18.1: each kind of find that is no count's, alone and beside counts that could be mended.
func TestEachOtherFind(t *testing.T) {
	for order := range 7 {
		for _, row := range []struct {
			kind api.FindKind
			bend func(p *picture, table int64)
		}{
			{api.FindPlace, func(p *picture, _ int64) { p.word(p.h.Counts+16, 1000) }},
			{api.FindPlace, func(p *picture, _ int64) { p.word(p.h.Counts+504, 1<<63) }},
			{api.FindPlace, func(p *picture, _ int64) { p.word(p.h.L1, uint64(len(p.b))) }},
			{api.FindPlace, func(p *picture, table int64) { p.word(table+88, data(1<<20)) }},
			{api.FindPlace, func(p *picture, _ int64) { p.h.L1 = 1 << 20; p.head() }},
			{api.FindPlace, func(p *picture, _ int64) { p.h.Counts = 1 << 20; p.head() }},
			{api.FindPlace, func(p *picture, _ int64) { p.h.CountsLen = 1 << 16; p.head() }},
			{api.FindPlace, func(p *picture, _ int64) { p.h.Snaps, p.h.SnapsAt, p.h.SnapsLen = 1, 1<<20, 9; p.head() }},
			{api.FindEntry, func(p *picture, table int64) { p.word(table+504, 4) }},
			{api.FindEntry, func(p *picture, table int64) { p.word(table+88, data(1000)) }},
			{api.FindEntry, func(p *picture, table int64) { p.word(table+88, 2) }}, // an entry that leads to cluster 0
			{api.FindList, func(p *picture, _ int64) { p.h.Snaps, p.h.SnapsAt, p.h.SnapsLen = 1, 13*512, 9; p.head() }},
			{api.FindList, func(p *picture, _ int64) { p.h.Bitmaps, p.h.BitmapsAt, p.h.BitmapsLen = 2, 13*512, 9; p.head() }},
			{api.FindTwice, func(p *picture, table int64) { p.word(table+88, data(512)) }},
			{api.FindTwice, func(p *picture, table int64) { p.word(table+88, data(table)) }},
			{api.FindTwice, func(p *picture, _ int64) { p.word(p.h.Counts+16, 1024) }},
			{api.FindTwice, func(p *picture, table int64) { p.word(table+88, data(p.h.L1)) }},
			{api.FindPacked, func(p *picture, table int64) { p.b[read(p.b).word(table+16)>>16] |= 7 }},
			{api.FindPacked, func(p *picture, table int64) { p.word(table+88, packed(13*512+3, 2)) }},
		} {
			p, table := guest(t, 9, order)
			tells(t, p, api.Fixed{})
			row.bend(p, table)
			broken(t, p, api.ErrBroken, row.kind)
		}
	}
}

// P18.1: a cluster whose count is too low, and of which no block tells: alone, beside others, ahead of and behind them.
func TestNoBlock(t *testing.T) {
	for order := 3; order < 7; order++ {
		p, table := guest(t, 9, order)
		per := p.per()
		p.grown(3*per + 2)
		for _, k := range []int64{per, per + 1, 2*per - 1, 2 * per, 3*per + 1} {
			q := p.bent()
			q.word(table+88, data(k*512))
			broken(t, q, api.ErrBroken, api.FindLow)
			// With its block, which stands behind all others in the file, it can be mended.
			q.word(q.h.Counts+k/per*8, uint64(q.take(512)))
			s := q.bent(0, 0, 25, 1).laid()
			f, no := mended(t, s)
			if no == api.OK && f.Low == 3 && f.Leaks == 1 {
				continue
			}
			// Unless no block tells of the block itself.
			if _, is := read(q.b).count(int64(len(q.b))/512 - 1); is || no != api.ErrBroken {
				t.Error(order, k, f, no)
			}
		}
	}
}

// P18.1: clusters beyond all that the counts' table can tell of, whatever stands behind it.
func TestBeyondTheTable(t *testing.T) {
	p := drawn(t, 9, 6, 30) // room: 64 blocks of 64 counts
	far := uint64(64 * 64)
	words := make([]uint64, 64)
	table := p.table(words...)
	p.root(uint64(table))
	p.grown(int64(far) + 70)
	p.sealed()
	tells(t, p, api.Fixed{})
	for _, k := range []uint64{far, far + 1, far + 63, far + 64} {
		q := p.bent()
		q.word(table+5*8, data(int64(k)*512))
		broken(t, q, api.ErrBroken, api.FindLow)
		// Behind the table stands its first block: bent, it looks like the place of one.
		b := read(q.b)
		b.set(0, 1024)
		b.set(1, 1024)
		s := q.laid()
		unchanged(t, s, func() {
			_, no := mended(t, s)
			want(t, no, api.ErrBroken)
		})
	}
	// The last one of which it can tell.
	p.word(p.h.Counts+504, uint64(p.take(512)))
	p.word(table+5*8, data(int64(far-1)*512))
	q := p.bent(far-2, 1)
	_, no := mended(t, q.laid())
	want(t, no, api.ErrBroken) // the block itself lies beyond it
	p, _ = guest(t, 9, 6)
	p.word(p.h.Counts+504, 13*512)
	tells(t, p.bent(far-1, 5), api.Fixed{Low: 1, Leaks: 1})
}

// P18.1: an image that is no more than its head.
func TestHeadAlone(t *testing.T) {
	p := full(t, 9, 4)
	for _, n := range []int{512, 513, 1000, 1024, 1536, len(p.b) - 3*512 - 1} {
		q := p.bent()
		q.b = q.b[:n]
		s := q.laid()
		unchanged(t, s, func() {
			_, no := mended(t, s)
			want(t, no, api.ErrBroken)
		})
	}
	q := p.bent()
	q.b = q.b[:len(p.b)-512] // the last three clusters are free
	tells(t, q, api.Fixed{})
	q.b = append(q.b, "what is no cluster"...)
	tells(t, q, api.Fixed{})
	tells(t, q.bent(uint64(len(q.b)/512), 9), api.Fixed{Leaks: 1})
}

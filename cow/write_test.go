package cow

import (
	"fmt"
	"slices"
	"testing"

	"palimpsest/api"
)

// fresh are sectors that are all other ones, counted on from one.
func fresh(first int, n int64) []int {
	list := make([]int, n)
	for i := range list {
		list[i] = 1 + (first+i)%250
	}
	return list
}

// P20.2: the chapter's first examples.
func TestWriteExample(t *testing.T) {
	k := stacked(t, level{9, 4, 2}, level{9, 4, 2})
	b, a := k.disks[0], k.disks[1]
	want(t, a.Write(0, sector('x')), api.OK)
	sameBytes(t, reads(t, b, 0, 2), rowOf('x', 0))
	want(t, b.Write(512, sector('y')), api.OK)
	for c, should := range []bool{false, true} {
		if own, no := b.Own(int64(c)); own != should || no != api.OK {
			t.Error(c, own, no)
		}
	}
	have, no := extentsOf(b, 0, 1024)
	if no != api.OK || !slices.Equal(have, []api.Extent{{At: 0, Len: 512, Kind: api.EntryData, Depth: 1}, {At: 512, Len: 512, Kind: api.EntryData}}) {
		t.Error(have, no)
	}
	want(t, b.Write(1, sector('z')), api.ErrArg)
	want(t, b.Write(1024, sector('z')), api.ErrRange)
}

// P20.2: each range of a disk that has clusters of all kinds, over one that has them as well: the content there is as it was written, all else is as it was, what is touched is own.
func TestWrite(t *testing.T) {
	for _, levels := range [][]level{{{10, 4, 9}, {11, 4, 7}}, {{11, 4, 13}, {9, 4, 20}}, {{9, 4, 6}}, {{12, 6, 11}, {10, 4, 11}}} {
		t.Run(fmt.Sprint(levels), func(t *testing.T) {
			t.Parallel()
			base := stacked(t, levels...)
			base.mixed()
			base = base.again()
			size := levels[0].sectors
			for from := range size + 1 {
				for n := range size - from + 1 {
					k := base.copied()
					k.do(0, writes(from, fresh(100, n)...))
					k.same(from, n)
				}
			}
		})
	}
}

// P20.2: what is written below shines through, but for what is own.
func TestWriteBelow(t *testing.T) {
	k := stacked(t, level{10, 4, 10}, level{9, 4, 12}, level{11, 4, 8})
	k.mixed()
	for i := range 40 {
		from := int64(i * 7 % 8)
		k.do(i%3, writes(from, fresh(i, min(3, k.plains[i%3].size-from))...))
		k.same(i)
	}
}

// P20.2: places and lengths that are none; where it is refused, nothing has changed.
func TestWriteRefuses(t *testing.T) {
	for _, levels := range [][]level{{{9, 4, 5}}, {{12, 4, 3}, {9, 4, 9}}, {{9, 4, 0}}} {
		k := stacked(t, levels...)
		d, p := k.top(), k.plains[0]
		for _, at := range odd(d.Size()) {
			for _, n := range []int64{0, 1, 511, 512, 513, 1024, max(d.Size()-512, 0), d.Size(), d.Size() + 1, d.Size() + 512} {
				should := p.ranged(at, n)
				if should != api.OK || n == 0 {
					unchanged(t, k.s, func() { want(t, d.Write(at, make([]byte, n)), should, at, n) })
					continue
				}
				k.do(0, writes(at/512, fresh(int(at+n), n/512)...))
			}
		}
		want(t, d.Write(0, nil), api.OK)
		want(t, d.Write(d.Size(), []byte{}), api.OK)
		k.same(levels)
	}
}

// P20.2: a cluster whose count is 1 is written in its place, just the sectors that are asked, and no other step is done.
func TestWriteInPlace(t *testing.T) {
	k := stacked(t, level{11, 4, 16}, level{11, 4, 16})
	k.did(0, writes(0, fresh(1, 12)...), flushes())
	was := []api.Entry{entryOf(t, k.top(), 0), entryOf(t, k.top(), 1), entryOf(t, k.top(), 2)}
	before, _ := k.s.Steps()
	k.do(0, writes(2, fresh(50, 7)...))
	for c, e := range was {
		if now := entryOf(t, k.top(), int64(c)); now != e || countOf(t, k.top(), int64(c)) != 1 {
			t.Error(c, e, now)
		}
	}
	var should []api.Piece
	for i := range int64(7) {
		c, from := (2+i)/4, (2+i)%4
		should = append(should, api.Piece{At: was[c].Place + from*512, Len: 512})
	}
	if have := slices.Collect(k.s.Pieces("a")); !slices.Equal(have, should) {
		t.Error(have, should)
	}
	if now, _ := k.s.Steps(); now != before+3 {
		t.Error("steps", now-before)
	}
	k.same()
}

// P20.2: a cluster that another holder has, too, stays as it is: a new one is taken, which has the whole content.
func TestWriteShared(t *testing.T) {
	k := stacked(t, level{11, 4, 14}, level{11, 4, 14})
	k.did(0, writes(0, fresh(1, 14)...))
	var was []api.Entry
	for c := range int64(4) {
		was = append(was, entryOf(t, k.top(), c))
	}
	snapped(t, k.top().Image())
	k.same("snapped")
	k.do(0, writes(1, 201, 202))
	k.same("written")
	k.do(0, writes(13, 203))
	k.same("written at the end")
	for c, e := range was {
		now := entryOf(t, k.top(), int64(c))
		moved := c == 0 || c == 3
		if (now != e) != moved || countOf(t, k.top(), int64(c)) != map[bool]uint64{true: 1, false: 2}[moved] {
			t.Error(c, e, now)
		}
		b, no := k.top().Image().Read(e.Place, 2048)
		want(t, no, api.OK)
		sameBytes(t, b[:1024], rowOf(fresh(1+4*c, 2)...), c)
	}
	// It has one of its own now: that is written in its place.
	now := entryOf(t, k.top(), 0)
	k.do(0, writes(0, 204))
	if e := entryOf(t, k.top(), 0); e != now {
		t.Error(e, now)
	}
	k.same()
}

// P20.2: a cluster that two guest clusters hold is none that is written in its place, till only one holds it.
func TestWriteHeldTwice(t *testing.T) {
	k := alone(t, 10, 4, 8)
	k.do(0, writes(0, 1, 2))
	e := entryOf(t, k.top(), 0)
	want(t, k.top().Image().Share(e.Place), api.OK)
	want(t, k.top().Image().Put(2, e), api.OK)
	k.plains[0].write(4, []int{1, 2})
	k.same("held twice")
	k.do(0, writes(0, 3, 4, 5, 6, 7))
	k.same("both written at once")
	if now := entryOf(t, k.top(), 0); now == e {
		t.Error(now)
	}
}

// P20.2: a new cluster has noughts beyond the size; of one that is written in its place they stay what they are.
func TestWriteBeyondTheSize(t *testing.T) {
	k := stacked(t, level{11, 4, 5}, level{11, 4, 8})
	k.do(1, writes(0, fresh(1, 8)...))
	k.do(0, writes(4, 9))
	e := entryOf(t, k.top(), 1)
	b, _ := k.top().Image().Read(e.Place, 2048)
	sameBytes(t, b, rowOf(9, 0, 0, 0))
	want(t, k.top().Image().Write(e.Place+512, sector(7)), api.OK)
	k.do(0, writes(4, 8))
	b, _ = k.top().Image().Read(e.Place, 2048)
	sameBytes(t, b, rowOf(8, 7, 0, 0))
	snapped(t, k.top().Image())
	k.do(0, writes(4, 6))
	b, _ = k.top().Image().Read(entryOf(t, k.top(), 1).Place, 2048)
	sameBytes(t, b, rowOf(6, 0, 0, 0))
	k.same()
}

// P20.2: it lasts behind Flush; the new cluster's bytes last as soon as its entry does.
func TestWriteLasts(t *testing.T) {
	k := alone(t, 10, 4, 8)
	k.did(0, writes(0, 1, 2, 3, 4))
	left := func() *Disk {
		s, no := k.s.Crash()
		want(t, no, api.OK)
		return over(t, imaged(t, s, "a", false), nil)
	}
	sameBytes(t, reads(t, left(), 0, 8), rowOf(1, 2, 3, 4, 0, 0, 0, 0))
	k.do(0, writes(1, 5, 6))
	sameBytes(t, reads(t, left(), 0, 8), rowOf(1, 2, 3, 4, 0, 0, 0, 0))
	k.do(0, flushes())
	sameBytes(t, reads(t, left(), 0, 8), rowOf(1, 5, 6, 4, 0, 0, 0, 0))
}

// P20.2: what cannot be unpacked is broken where it must be kept, and nothing has changed; where all of it is written over, it goes.
func TestWriteBroken(t *testing.T) {
	for _, bad := range bads(t) {
		for i := range 2 {
			k := stacked(t, level{10, 4, 8}, level{11, 4, 8})
			if i == 1 {
				bad = packedBytes(t, rowOf(6))
			}
			k.do(0, writes(0, 1, 2))
			put(t, k.disks[i].Image(), 1-int64(i), api.EntryPacked, bad)
			unchanged(t, k.s, func() {
				want(t, k.top().Write(512, rowOf(4, 5)), api.ErrBroken)
				want(t, k.top().Write(1536, rowOf(4, 5)), api.ErrBroken)
				want(t, k.top().Zero(512, 1024), api.ErrBroken)
				want(t, k.top().Zero(1536, 1024), api.ErrBroken)
				want(t, k.top().Settle(1), api.ErrBroken)
			})
			k.do(0, writes(1, fresh(9, 7)...))
			k.do(0, zeroes(0, 1))
		}
	}
}

// P20.2: an entry that cannot be read is broken, wherever it lies in the range, and nothing has changed.
func TestWriteBrokenTable(t *testing.T) {
	k := alone(t, 9, 4, 70)
	k.do(0, writes(0, fresh(1, 70)...))
	h, _ := k.top().Image().Head()
	want(t, k.s.Write("a", h.L1+8, []byte{1}), api.OK)
	unchanged(t, k.s, func() {
		for _, from := range []int64{0, 10, 63, 64, 69} {
			n := 70 - from
			want(t, k.top().Write(from*512, make([]byte, n*512)), api.ErrBroken)
			want(t, k.top().Zero(from*512, n*512), api.ErrBroken)
			want(t, k.top().Pack(from*512, make([]byte, n*512), 1), api.ErrBroken)
			if _, no := k.top().Read(from*512, int(n*512)); no != api.ErrBroken {
				t.Error(no)
			}
			if _, no := k.top().Map(from*512, n*512); no != api.ErrBroken {
				t.Error(no)
			}
		}
		for _, c := range []int64{64, 69} {
			want(t, k.top().Settle(c), api.ErrBroken)
			want(t, k.top().Forget(c), api.ErrBroken)
			if own, no := k.top().Own(c); own || no != api.ErrBroken {
				t.Error(own, no)
			}
		}
	})
	want(t, k.top().Write(0, sector(200)), api.OK)
}

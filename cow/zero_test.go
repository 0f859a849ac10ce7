package cow

import (
	"fmt"
	"testing"

	"palimpsest/api"
)

// P20.3: the chapter's example.
func TestZeroExample(t *testing.T) {
	k := stacked(t, level{9, 4, 2}, level{9, 4, 2})
	k.did(1, writes(0, 'x'))
	k.did(0, writes(1, 'y'), zeroes(0, 1))
	sameBytes(t, reads(t, k.top(), 0, 1), sector(0))
	k.did(0, forgets(0))
	sameBytes(t, reads(t, k.top(), 0, 1), sector('x'))
	k.same()
}

// P20.3: each range of a disk that has clusters of all kinds, over one that has them as well: the content there is noughts, all else is as it was, what is touched is own, whole clusters are noughts.
func TestZero(t *testing.T) {
	for _, levels := range [][]level{{{10, 4, 9}, {11, 4, 7}}, {{11, 4, 13}, {9, 4, 20}}, {{9, 4, 6}}, {{12, 6, 11}, {10, 4, 11}}} {
		t.Run(fmt.Sprint(levels), func(t *testing.T) {
			t.Parallel()
			base := stacked(t, levels...)
			base.mixed()
			base = base.again()
			size := levels[0].sectors
			for from := range size + 1 {
				for n := range size - from + 1 {
					k := base.copied()
					k.do(0, zeroes(from, n))
					k.same(from, n)
				}
			}
		})
	}
}

// P20.3: places and lengths that are none; where it is refused, nothing has changed.
func TestZeroRefuses(t *testing.T) {
	for _, levels := range [][]level{{{9, 4, 5}}, {{12, 4, 3}, {9, 4, 9}}, {{9, 4, 0}}} {
		k := stacked(t, levels...)
		d, p := k.top(), k.plains[0]
		for _, at := range odd(d.Size()) {
			for _, n := range odd(d.Size()) {
				should := p.ranged(at, n)
				if should != api.OK || n == 0 {
					unchanged(t, k.s, func() { want(t, d.Zero(at, n), should, at, n) })
					continue
				}
				k.did(0, writes(0, fresh(1, p.size)...), zeroes(at/512, n/512))
				k.same(at, n)
			}
		}
	}
}

// P20.3: what is noughts already stays, and nothing is written for it; a cluster of its own, whose count is 1, is written in its place where a part of it is to be noughts.
func TestZeroLittle(t *testing.T) {
	k := alone(t, 11, 4, 14)
	k.did(0, zeroes(0, 4), writes(4, fresh(1, 10)...), zeroes(12, 2), flushes())
	unchanged(t, k.s, func() {
		k.did(0, zeroes(0, 4), zeroes(1, 2), zeroes(12, 2), zeroes(13, 1), zeroes(0, 0))
	})
	e := entryOf(t, k.top(), 1)
	before, _ := k.s.Steps()
	k.do(0, zeroes(5, 2))
	if now, _ := k.s.Steps(); now != before+1 || entryOf(t, k.top(), 1) != e {
		t.Error("steps", now-before, e, entryOf(t, k.top(), 1))
	}
	k.same()
	k.do(0, zeroes(4, 4))
	if n, no := k.top().Image().Count(e.Place); n != 0 || no != api.OK {
		t.Error("it is held by nobody any more", n, no)
	}
	k.same()
}

// P20.3: what others hold, too, stays as it is.
func TestZeroShared(t *testing.T) {
	k := alone(t, 11, 4, 14)
	k.did(0, writes(0, fresh(1, 14)...))
	was := []api.Entry{entryOf(t, k.top(), 0), entryOf(t, k.top(), 1)}
	snapped(t, k.top().Image())
	k.do(0, zeroes(2, 6))
	k.same()
	for c, e := range was {
		b, no := k.top().Image().Read(e.Place, 2048)
		want(t, no, api.OK)
		sameBytes(t, b, rowOf(fresh(1+4*c, 4)...))
		if n, _ := k.top().Image().Count(e.Place); n != 1 {
			t.Error(c, n)
		}
	}
}

// P20.3: Forget of each kind lets the disk below be seen again; what was held is held no more.
func TestForget(t *testing.T) {
	for said, levels := range kinds() {
		k := stacked(t, levels...)
		k.mixed()
		for c := range int64(len(k.plains[0].rows)) {
			e := entryOf(t, k.top(), c)
			n := uint64(0)
			if e.Place > 0 {
				n, _ = k.top().Image().Count(e.Place)
			}
			k.do(0, forgets(c))
			k.same(said, c)
			if e.Place > 0 {
				if now, _ := k.top().Image().Count(e.Place); now != n-1 {
					t.Error(said, c, n, now)
				}
			}
			if e.Kind == api.EntryNone {
				unchanged(t, k.s, func() { k.do(0, forgets(c)) })
			}
		}
	}
}

// P20.3: Forget goes as far as the table does, and is refused beyond; it lasts.
func TestForgetRefuses(t *testing.T) {
	k := alone(t, 9, 4, 3)
	k.did(0, writes(0, 1, 2, 3))
	unchanged(t, k.s, func() {
		for _, c := range []int64{-1 << 63, -1, 64, 65, 1 << 40, 1<<63 - 1} {
			want(t, k.top().Forget(c), api.ErrRange, c)
			want(t, k.top().Settle(c), api.ErrRange, c)
		}
		want(t, k.top().Forget(3), api.OK)
		want(t, k.top().Forget(63), api.OK)
	})
	k.do(0, forgets(1))
	s, _ := k.s.Crash()
	sameBytes(t, reads(t, over(t, imaged(t, s, "a", false), nil), 0, 3), rowOf(1, 0, 3))
}

// P20.3: Settle of each kind: the cluster is own, its content is as it was, and, but for one that is noughts, it is a cluster that has noughts beyond the size.
func TestSettle(t *testing.T) {
	for said, levels := range kinds() {
		k := stacked(t, levels...)
		k.mixed()
		for c := range int64(len(k.plains[0].rows)) {
			e := entryOf(t, k.top(), c)
			if e.Kind == api.EntryZero || e.Kind == api.EntryData {
				unchanged(t, k.s, func() { k.do(0, settles(c)) })
			}
			k.do(0, settles(c))
			k.same(said, c)
			k.do(0, settles(c))
			k.settled(c)
		}
	}
}

// settled tells that a guest cluster's own cluster has its content, and noughts beyond the size.
func (k *stack) settled(c int64) {
	k.t.Helper()
	p, e := k.plains[0], entryOf(k.t, k.top(), c)
	if e.Kind == api.EntryZero {
		return
	}
	b, no := k.top().Image().Read(e.Place, int(p.per*512))
	want(k.t, no, api.OK)
	sameBytes(k.t, b, p.bytes(c*p.per, p.per), c)
}

// P20.3: Settle of a last cluster that has something beyond the size: that is noughts then; in its place, if the count is 1, else in a new cluster.
func TestSettleBeyondTheSize(t *testing.T) {
	for _, shared := range []bool{false, true} {
		for _, sectors := range []int64{5, 7, 8} {
			k := stacked(t, level{11, 4, sectors}, level{11, 4, 16})
			k.did(1, writes(0, fresh(80, 16)...))
			put(t, k.top().Image(), 1, api.EntryData, rowOf(1, 2, 3, 4))
			k.plains[0].write(4, fresh(0, sectors-4))
			if shared {
				snapped(t, k.top().Image())
			}
			e := entryOf(t, k.top(), 1)
			before, _ := k.s.Steps()
			k.do(0, settles(1))
			now, _ := k.s.Steps()
			k.same()
			k.settled(1)
			moved := shared && sectors < 8
			if (entryOf(t, k.top(), 1) != e) != moved {
				t.Error(shared, sectors, e, entryOf(t, k.top(), 1))
			}
			if !shared && now != before+map[bool]int{true: 1, false: 0}[sectors < 8] {
				t.Error(shared, sectors, "steps", now-before)
			}
			unchanged(t, k.s, func() { k.do(0, settles(1)) })
			b, no := k.top().Image().Read(e.Place, 2048)
			want(t, no, api.OK)
			if moved {
				sameBytes(t, b, rowOf(1, 2, 3, 4))
			}
		}
	}
}

// P20.3: Settle of packed bytes that have something beyond the size.
func TestSettlePackedBeyondTheSize(t *testing.T) {
	k := stacked(t, level{11, 4, 6}, level{11, 4, 16})
	k.did(1, writes(0, fresh(80, 16)...))
	put(t, k.top().Image(), 1, api.EntryPacked, packedBytes(t, rowOf(1, 2, 3, 4)))
	k.plains[0].write(4, []int{1, 2})
	k.do(0, settles(1))
	k.same()
	k.settled(1)
}

// P20.3: Settle goes as far as the table does: what lies beyond the size has no content.
func TestSettleBeyond(t *testing.T) {
	k := alone(t, 10, 4, 3)
	k.do(0, writes(0, 1, 2, 3))
	put(t, k.top().Image(), 3, api.EntryData, rowOf(7, 7))
	for _, c := range []int64{2, 3, 127} {
		want(t, k.top().Settle(c), api.OK)
		b, no := k.top().Image().Read(entryOf(t, k.top(), c).Place, 1024)
		want(t, no, api.OK)
		sameBytes(t, b, rowOf(0, 0), c)
		if entryOf(t, k.top(), c).Kind != api.EntryData {
			t.Error(c)
		}
	}
	clean(t, k.s, "a")
	sameBytes(t, reads(t, k.top(), 0, 3), rowOf(1, 2, 3))
}

// P20.3: Flush lets all last; of an image that is open for reading alone, and of a dead one it is refused.
func TestFlush(t *testing.T) {
	k := stacked(t, level{10, 4, 4}, level{10, 4, 4})
	k.did(1, writes(0, 1, 2), writes(0, 3))
	k.did(0, writes(2, 1, 2), writes(2, 3))
	if k.s.Pending() != 2 {
		t.Fatal(k.s.Pending())
	}
	want(t, k.top().Flush(), api.OK)
	if k.s.Pending() != 1 {
		t.Error("one image is flushed, the other one is not", k.s.Pending())
	}
	want(t, k.disks[1].Flush(), api.OK)
	if k.s.Pending() != 0 {
		t.Error(k.s.Pending())
	}
	k.same()
}

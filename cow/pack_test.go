package cow

import (
	"fmt"
	"slices"
	"testing"

	"palimpsest/api"
)

// P20.4: the chapter's example.
func TestPackExample(t *testing.T) {
	k := stacked(t, level{9, 4, 2}, level{9, 4, 2})
	k.did(0, packs(1, 0, 'z'))
	if have, no := extentsOf(k.top(), 0, 512); no != api.OK || !slices.Equal(have, []api.Extent{{Len: 512, Kind: api.EntryPacked}}) {
		t.Error(have, no)
	}
	k.same()
}

// P20.4: each range of a disk that has clusters of all kinds: whole clusters are packed, others are refused, and nothing has changed then.
func TestPack(t *testing.T) {
	for _, levels := range [][]level{{{10, 4, 9}, {11, 4, 7}}, {{11, 4, 13}, {9, 4, 20}}, {{9, 4, 6}}, {{12, 6, 11}, {10, 4, 11}}} {
		t.Run(fmt.Sprint(levels), func(t *testing.T) {
			t.Parallel()
			base := stacked(t, levels...)
			base.mixed()
			base = base.again()
			size := levels[0].sectors
			for from := range size + 1 {
				for n := range size - from + 1 {
					k := base.copied()
					list := fresh(100, n)
					if n > 5 {
						list[n/2] = wild
					}
					a := packs(int(n%3), from, list...)
					if !k.plains[0].wholes(from, n) {
						unchanged(t, k.s, func() { want(t, a.on(k.top()), api.ErrPack, from, n) })
						continue
					}
					k.do(0, a)
					k.same(from, n)
				}
			}
		})
	}
}

// P20.4: places, lengths and levels that are none, and which of these is told first.
func TestPackRefuses(t *testing.T) {
	for _, levels := range [][]level{{{9, 4, 5}}, {{12, 4, 19}, {9, 4, 9}}, {{10, 4, 4}}, {{9, 4, 0}}} {
		k := stacked(t, levels...)
		d, p := k.top(), k.plains[0]
		for _, level := range []int{-1 << 63, -1, 0, 1, 2, 3, 1<<63 - 1} {
			for _, at := range append(odd(d.Size()), 4096, 8192) {
				for _, n := range []int64{0, 1, 511, 512, 513, 1024, 4096, max(d.Size()-512, 0), d.Size(), d.Size() + 1, d.Size() + 512} {
					should := p.ranged(at, n)
					if level < 0 || level > 2 {
						should = api.ErrArg
					}
					if should == api.OK && !p.wholes(at/512, n/512) {
						should = api.ErrPack
					}
					if should != api.OK || n == 0 {
						unchanged(t, k.s, func() { want(t, d.Pack(at, make([]byte, n), level), should, at, n, level) })
						continue
					}
					k.do(0, packs(level, at/512, fresh(int(at+n), n/512)...))
				}
			}
			k.same(level)
		}
	}
}

// P20.4: of the levels 1 and 2 bytes that pack well are packed, others, and all of the level 0, are written.
func TestPackLevels(t *testing.T) {
	for level := range 3 {
		for _, bits := range []int{9, 10, 12, 16} {
			k := alone(t, bits, 4, 300)
			per := k.plains[0].per
			list := slices.Repeat([]int{5}, int(per))
			rough := slices.Clone(list)
			for i := range rough {
				rough[i] = wild + i
			}
			k.did(0, packs(level, 0, list...), packs(level, per, rough...))
			k.same(level, bits)
			one, other := entryOf(t, k.top(), 0), entryOf(t, k.top(), 1)
			if (one.Kind == api.EntryPacked) != (level > 0) || other.Kind != api.EntryData {
				t.Error(level, bits, one, other)
			}
		}
	}
}

// P20.4: packed bytes are fewer than the cluster, and at most 16383: what stands at these bounds.
func TestPackBounds(t *testing.T) {
	// Of a cluster of 2^16 bytes, so many sectors do not pack, and all others do: the bytes grow with them.
	k := alone(t, 16, 4, 128)
	for n := range 128 {
		list := make([]int, 128)
		for i := range n {
			list[i] = wild + i
		}
		long := len(packedBytes(t, rowOf(list...)))
		k.do(0, packs(1, 0, list...))
		e := entryOf(t, k.top(), 0)
		if (e.Kind == api.EntryPacked) != (long <= 16383) || e.Kind == api.EntryPacked && e.Len != long {
			t.Error(n, long, e)
		}
		if long > 17000 {
			break
		}
	}
	k.same()
	for _, long := range []int{511, 512, 16383, 16384} {
		bits := 9
		if long > 512 {
			bits = 16
		}
		b := packingTo(t, 1<<bits, long)
		k := alone(t, bits, 4, 128)
		want(t, k.top().Pack(0, b, 1), api.OK)
		e := entryOf(t, k.top(), 0)
		if (e.Kind == api.EntryPacked) != (long%2 == 1) {
			t.Error(long, e)
		}
		have, no := k.top().Read(0, len(b))
		want(t, no, api.OK)
		sameBytes(t, have, b)
	}
}

// packingTo is n bytes that are packed to just so many of the level 1: noughts behind as many rough ones as it takes.
func packingTo(t testing.TB, n, long int) []byte {
	t.Helper()
	rough := 0
	for range 200 {
		b, state := make([]byte, n), uint64(1)
		for i := range rough {
			state = state*6364136223846793005 + 1442695040888963407
			b[i] = byte(state >> 57)
		}
		have := len(packedBytes(t, b))
		switch {
		case have == long:
			return b
		case have < long:
			rough += (long - have + 1) / 2
		default:
			rough--
		}
	}
	t.Fatal("no such bytes", n, long)
	return nil
}

// P20.4: packed ones lie behind one another in a cluster, as long as there is room, be they of one call or of many.
func TestPackBehind(t *testing.T) {
	for _, each := range []int64{1, 3, 100} {
		k := alone(t, 10, 4, 200)
		cluster := int64(1024)
		for from := int64(0); from < 200; from += 2 * each {
			n := min(2*each, 200-from)
			list := fresh(int(from), n)
			for i := range list {
				if s := int(from) + i; s%6 == 0 {
					list[i] = wild + s
				}
			}
			k.do(0, packs(1, from, list...))
		}
		k.same(each)
		last := entryOf(t, k.top(), 0)
		taken := 1
		for c := range int64(99) {
			e := entryOf(t, k.top(), c+1)
			end := last.Place + int64(last.Len)
			if room := (cluster - end%cluster) % cluster; int64(e.Len) <= room {
				if e.Place != end {
					t.Error(each, c, last, e)
				}
			} else if taken++; e.Place%cluster != 0 {
				t.Error(each, c, last, e)
			}
			last = e
		}
		if taken < 10 || taken > 90 {
			t.Error("clusters", taken)
		}
	}
}

// P20.4: there is room for what fills a cluster up to its last byte, not for a byte more; be they of one call or of two.
func TestPackToTheLastByte(t *testing.T) {
	one := packingTo(t, 1024, 500)
	for _, long := range []int{523, 524, 525} {
		for _, at := range []int{1024, 2048} {
			k := alone(t, 10, 4, 6)
			b := slices.Concat(one, packingTo(t, 1024, long), one)
			want(t, k.top().Pack(0, b[:at], 1), api.OK)
			want(t, k.top().Pack(int64(at), b[at:], 1), api.OK)
			first, last := entryOf(t, k.top(), 0), entryOf(t, k.top(), 1)
			if (last.Place == first.Place+500) != (long <= 524) {
				t.Error(long, at, first, last)
			}
			sameBytes(t, reads(t, k.top(), 0, 6), b)
			clean(t, k.s, "a")
		}
	}
}

// P20.4: a count can only be so great: then the next ones come into a cluster of their own, be they of one call or of many.
func TestPackCounts(t *testing.T) {
	for order, most := range []int64{1, 3, 15, 255} {
		for _, each := range []int64{1, 7, 300} {
			k := alone(t, 13, order, 16*300)
			b := make([]byte, each<<13)
			list := map[int64]int64{}
			for c := int64(0); c < 300; c += each {
				n := min(each, 300-c)
				want(t, k.top().Pack(c<<13, b[:n<<13], 2), api.OK)
			}
			for c := range int64(300) {
				list[entryOf(t, k.top(), c).Place>>13]++
			}
			clean(t, k.s, "a")
			for place, n := range list {
				if n > most {
					t.Error(order, each, place, n)
				}
			}
			if int64(len(list)) != (300+most-1)/most {
				t.Error(order, each, len(list))
			}
		}
	}
}

// P20.4: nothing is put behind packed bytes that are not there any more, as their cluster may be taken for something else.
func TestPackBehindWhatIsGone(t *testing.T) {
	for said, gone := range map[string]act{
		"forgotten": forgets(0), "noughts": zeroes(0, 2), "written": writes(0, 7, 8), "settled": settles(0), "packed anew": packs(1, 0, 9, 9),
	} {
		k := alone(t, 10, 4, 40)
		k.did(0, packs(1, 0, 5, 5), gone)
		// Whatever is taken next may be the cluster in which they were.
		for i := range int64(5) {
			k.do(0, writes(4+4*i, fresh(int(i), 2)...))
			k.do(0, packs(1, 2+4*i, 6, 6))
			k.same(said, i)
		}
	}
}

// P20.4: as long as one is left of those that lie in a cluster, others come behind where the last one was put.
func TestPackBehindWhatIsLeft(t *testing.T) {
	for left := range int64(3) {
		k := alone(t, 10, 4, 40)
		k.do(0, packs(1, 0, fresh(1, 6)...))
		last := entryOf(t, k.top(), 2)
		for c := range int64(3) {
			if c != left {
				k.do(0, []act{forgets(c), zeroes(2*c, 2), writes(2*c, 7)}[left])
			}
		}
		k.do(0, packs(1, 8, 5, 5))
		if e := entryOf(t, k.top(), 4); e.Place != last.Place+int64(last.Len) || countOf(t, k.top(), 4) != 2 {
			t.Error(left, last, e)
		}
		k.same(left)
		k.did(0, forgets(left), packs(1, 10, 6, 6))
		if e := entryOf(t, k.top(), 5); e.Place/1024 != last.Place/1024 {
			t.Error(left, last, e)
		}
		k.same(left)
	}
}

// P20.4: a snapshot holds what is packed, too: nothing that it holds is written over, be it applied or not.
func TestPackBehindWhatComesBack(t *testing.T) {
	k := alone(t, 10, 4, 40)
	k.do(0, packs(1, 0, fresh(1, 6)...))
	snapped(t, k.top().Image())
	was := k.plains[0].bytes(0, 6)
	old := []api.Entry{entryOf(t, k.top(), 0), entryOf(t, k.top(), 1), entryOf(t, k.top(), 2)}
	k.did(0, packs(1, 6, 9, 9), forgets(0), forgets(1), forgets(2), forgets(3), packs(1, 8, 5, 5, 6, 6))
	k.same()
	for c, e := range old {
		want(t, k.top().Image().Share(e.Place), api.OK)
		want(t, k.top().Image().Put(int64(c), e), api.OK)
	}
	sameBytes(t, reads(t, k.top(), 0, 6), was)
	k.do(0, packs(1, 12, 7, 7, 8, 8))
	sameBytes(t, reads(t, k.top(), 0, 6), was)
	clean(t, k.s, "a")
}

// P20.4: another disk of the same image may take a cluster anew, and put there what looks the same: nothing of that is written over.
func TestPackOfTwo(t *testing.T) {
	k := alone(t, 10, 4, 8)
	one, other := k.top(), over(t, k.top().Image(), nil)
	k.did(0, packs(1, 0, 5, 5), forgets(0))
	k.disks[0] = other
	k.did(0, packs(1, 0, 5, 5), packs(1, 2, fresh(20, 2)...))
	k.disks[0] = one
	k.did(0, packs(1, 4, fresh(30, 2)...))
	k.same()
	for n := range 500 {
		k.disks[0] = []*Disk{one, other}[n*n%7%2]
		c := int64(n * n % 11 % 4)
		k.do(0, []act{packs(1, 2*c, 5, n%3), forgets(c), packs(2, 2*c, n%5, 5)}[n%3])
		k.same(n)
	}
}

// P20.4: packed bytes whose cluster is let go of by what is done ahead of them in the same call.
func TestPackOverThemselves(t *testing.T) {
	for first := range int64(5) {
		for rough := range int64(5) {
			k := alone(t, 10, 4, 10)
			k.do(0, packs(1, 0, fresh(1, 10)...))
			for n := range 5 - first {
				list := fresh(int(30+n), 2*n+2)
				if rough <= n {
					list[2*rough] = wild + int(n)
				}
				k.do(0, packs(1, 2*first, list...))
				k.same(first, rough, n)
			}
		}
	}
}

// P20.4: beyond the size noughts are packed.
func TestPackBeyondTheSize(t *testing.T) {
	k := stacked(t, level{11, 4, 6}, level{11, 4, 8})
	k.do(1, writes(0, fresh(1, 8)...))
	k.do(0, packs(1, 4, 5, 5))
	e := entryOf(t, k.top(), 1)
	b, no := k.top().Image().Read(e.Place, e.Len)
	want(t, no, api.OK)
	sameBytes(t, b, packedBytes(t, rowOf(5, 5, 0, 0)))
	k.same()
}

// P20.4: what is not packed is written as Write writes: in its place, if its count is 1.
func TestPackInPlace(t *testing.T) {
	k := alone(t, 10, 4, 8)
	k.did(0, writes(0, 1, 2, 3, 4))
	e := entryOf(t, k.top(), 0)
	k.did(0, packs(1, 0, wild, wild+1))
	if now := entryOf(t, k.top(), 0); now != e {
		t.Error(e, now)
	}
	snapped(t, k.top().Image())
	k.did(0, packs(1, 0, wild+2, wild+3))
	if now := entryOf(t, k.top(), 0); now == e {
		t.Error(e, now)
	}
	b, _ := k.top().Image().Read(e.Place, 1024)
	sameBytes(t, b, rowOf(wild, wild+1))
	k.same()
}

// P20.4: packed bytes that a snapshot holds, too, stay as they are, whatever is packed behind them.
func TestPackShared(t *testing.T) {
	k := alone(t, 10, 4, 40)
	k.do(0, packs(1, 0, fresh(1, 6)...))
	e := entryOf(t, k.top(), 2)
	was, _ := k.top().Image().Read(e.Place, e.Len)
	snapped(t, k.top().Image())
	k.did(0, packs(1, 6, fresh(9, 6)...), packs(1, 4, 7, 7), packs(1, 0, 8, 8))
	now, _ := k.top().Image().Read(e.Place, e.Len)
	sameBytes(t, now, was)
	k.same()
}

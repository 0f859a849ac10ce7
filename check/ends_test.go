package check

import (
	"testing"

	"palimpsest/api"
	"palimpsest/tables"
)

// knot is an image of 64 KiB clusters in which each word of the L1 table leads to one L2 table, and each word of that to one cluster; all that are snapshots likewise.
func knot(t testing.TB, snaps int, word func(c int64) uint64) *picture {
	c := int64(1 << 16)
	p := &picture{b: make([]byte, 12*c), c: c}
	p.h = api.Head{Bits: 16, Size: c, L1: 3 * c, L1Len: 4 * 8192, Order: 6, Counts: c, CountsLen: 1}
	p.word(c, uint64(2*c))
	for i := range int64(4 * 8192) {
		p.word(3*c+8*i, uint64(7*c))
	}
	for i := range int64(8192) {
		p.word(7*c+8*i, word(c))
	}
	var l []api.Snap
	for i := range snaps {
		l = append(l, api.Snap{Name: string(rune('0' + i)), L1: 3 * c, L1Len: 4 * 8192})
	}
	s, no := tables.Snaps(16, l...)
	want(t, no, api.OK)
	copy(p.b[10*c:], s)
	if snaps > 0 {
		p.h.Snaps, p.h.SnapsAt, p.h.SnapsLen = snaps, 10*c, len(s)
	}
	p.seal(t)
	return p
}

// P15.2: it ends, soon, where there are more ways than could be gone one by one.
func TestManyWays(t *testing.T) {
	p := knot(t, 64, func(c int64) uint64 { return data(8 * c) })
	r, no := Bytes(p.b)
	want(t, no, api.OK)
	m, no := Holders(p.b)
	want(t, no, api.OK)
	ways := uint64(65 * 4 * 8192)
	if m[7] != ways || m[8] != ways*8192 || m[3] != 65 || m[10] != 1 || len(m) != 10 {
		t.Error(m)
	}
	if r.Data != 4*8192*8192 || r.Zero != 0 || r.Held != 10 || r.Clusters != 12 {
		t.Error(r)
	}
	p = knot(t, 0, func(int64) uint64 { return 1 })
	if r, no := Bytes(p.b); r.Zero != 4*8192*8192 || r.Data != 0 || no != api.OK {
		t.Error(r, no)
	}
	p = knot(t, 64, func(int64) uint64 { return 5 })
	if r, no := Bytes(p.b); len(r.Finds) < 8192 || r.Zero != 0 || no != api.OK {
		t.Error(len(r.Finds), no)
	}
}

// P15.2: likewise of packed bytes that all words lead to, which tell much.
func TestManyWaysToPackedBytes(t *testing.T) {
	b := pack(t, 1<<16, 'p')
	p := knot(t, 64, func(c int64) uint64 { return packed(8*c+1, len(b)) })
	copy(p.b[8*p.c+1:], b)
	r, no := Bytes(p.b)
	if r.Packed != 4*8192*8192 || no != api.OK {
		t.Error(r, no)
	}
	p.b[8*p.c+1] |= 7
	if r, no = Bytes(p.b); r.Packed != 4*8192*8192 || len(r.Finds) < 8192 || no != api.OK {
		t.Error(len(r.Finds), no)
	}
}

// P15.2: likewise of a counts' table all of whose words lead to one block, in which one count is not 0.
func TestManyWaysToABlock(t *testing.T) {
	p := knot(t, 0, func(int64) uint64 { return 0 })
	p.h.Order = 0
	p.seal(t)
	for i := range int64(8192) {
		p.word(p.c+8*i, uint64(2*p.c))
	}
	p.b[2*p.c+100] = 0x10
	r, no := Bytes(p.b)
	want(t, no, api.OK)
	leaks := 0
	for _, f := range r.Finds {
		if f.Kind == api.FindLeak {
			if f != leak(((int64(leaks)<<19)+804)<<16, 0, 1) {
				t.Fatal(f)
			}
			leaks++
		}
	}
	if leaks != 8192 {
		t.Error(leaks)
	}
}

// P15.1, P15.2: tables that lead back to themselves, and to one another: each by each other.
func TestLeadsBack(t *testing.T) {
	p := drawn(t, 9, 4)
	all := []int64{inCounts, inBlock, inL1, inL2, inShared, inOneL1, inTwoL1, inSnaps, inBitmaps}
	for _, from := range all {
		for _, to := range all {
			for _, kind := range []uint64{0, 2} {
				q := p.clone()
				for i := range int64(64) {
					q.word(q.at(from)+8*i, uint64(q.at(to))|kind)
				}
				told(t, q.b)
				for i := range int64(64) {
					q.word(q.at(to)+8*i, uint64(q.at(from))|kind)
				}
				told(t, q.b)
			}
		}
	}
}

package check

import (
	"slices"
	"testing"

	"palimpsest/api"
)

// Short names of finds.
func place(at int64) api.Find   { return api.Find{Kind: api.FindPlace, At: at} }
func noEntry(at int64) api.Find { return api.Find{Kind: api.FindEntry, At: at} }
func noList(at int64) api.Find  { return api.Find{Kind: api.FindList, At: at} }
func noPack(at int64) api.Find  { return api.Find{Kind: api.FindPacked, At: at} }
func twice(at int64, have uint64) api.Find {
	return api.Find{Kind: api.FindTwice, At: at, Want: 1, Have: have}
}
func low(at int64, want, have uint64) api.Find {
	return api.Find{Kind: api.FindLow, At: at, Want: want, Have: have}
}
func leak(at int64, want, have uint64) api.Find {
	return api.Find{Kind: api.FindLeak, At: at, Want: want, Have: have}
}

// finds holds what is found of a picture against a list, which says whether it is broken, too.
func finds(t testing.TB, p *picture, l ...api.Find) api.Report {
	t.Helper()
	r := told(t, p.b)
	if !slices.Equal(r.Finds, l) {
		t.Errorf("finds %v\nwant  %v", r.Finds, l)
	}
	if broken := slices.ContainsFunc(l, func(f api.Find) bool { return f.Kind != api.FindLeak }); r.Broken != broken {
		t.Error("broken:", r.Broken)
	}
	return r
}

// P15.1: each kind of find by itself, with its At, Want and Have; the counts are those that fit the holders that are left.
func TestEachFindByItself(t *testing.T) {
	p := drawn(t, 9, 4)
	for _, row := range []struct {
		bend func(p *picture)
		find api.Find
	}{
		{func(p *picture) { p.word(p.at(inCounts)+8, 1000) }, place(512 + 8)},
		{func(p *picture) { p.word(p.at(inCounts)+504, 1<<63) }, place(512 + 504)},
		{func(p *picture) { p.word(p.at(inL1)+8, uint64(len(p.b))) }, place(1536 + 8)},
		{func(p *picture) { p.word(p.at(inL2)+16, data(p.at(made))) }, place(2048 + 16)},
		{func(p *picture) { p.word(p.at(inL2)+16, packed(p.at(made)+9, 5)) }, place(2048 + 16)},
		{func(p *picture) { p.word(p.at(inTwoL1), 1) }, place(11 * 512)},
		{func(p *picture) { p.word(p.at(inL2)+504, 4) }, noEntry(2048 + 504)},
		{func(p *picture) { p.word(p.at(inShared), 5) }, noEntry(5 * 512)},
		{func(p *picture) { p.word(p.at(inL2)+16, data(1000)) }, noEntry(2048 + 16)},
		{func(p *picture) { p.word(p.at(inL2)+32, packed(p.at(inPacked)+3, p.used-1)) }, noPack(2048 + 32)},
		{func(p *picture) { p.word(p.at(inL2)+16, packed(p.at(inPacked)+3, 1)) }, noPack(2048 + 16)},
		{func(p *picture) { p.b[p.at(inPacked)+3] |= 7 }, noPack(2048 + 32)},
		{func(p *picture) { p.b[p.at(inSnaps)] = 0 }, noList(9 * 512)},
		{func(p *picture) { p.b[p.at(inBitmaps)]++ }, noList(12 * 512)},
		{func(p *picture) { p.word(p.at(inL2)+16, data(p.at(inRow))) }, twice(13*512, 2)},
		{func(p *picture) { p.word(p.at(inL2)+16, data(p.at(inShared))) }, twice(5*512, 4)},
	} {
		q := p.clone()
		row.bend(q)
		q.settle()
		finds(t, q, row.find)
	}
	q := p.clone()
	q.count(inData, 0)
	finds(t, q, low(6*512, 1, 0))
	q.count(inData, 2)
	finds(t, q, leak(6*512, 1, 2))
}

// P15.1: the chapter's examples. No word leads to cluster 0: a place there is none, and an entry there is no entry.
func TestExamples(t *testing.T) {
	p := drawn(t, 9, 4)
	p.h.Snaps, p.h.SnapsAt, p.h.SnapsLen = 0, 0, 0
	p.h.Bitmaps, p.h.BitmapsAt, p.h.BitmapsLen = 0, 0, 0
	p.seal(t)
	p.settle()
	finds(t, p)
	q := p.clone()
	q.word(q.at(inL1), 1000)
	finds(t, q, place(1536), leak(4*512, 0, 1), leak(6*512, 0, 1), leak(8*512, 0, 2))
	q = p.clone()
	q.count(inL1, 2)
	finds(t, q, leak(1536, 1, 2))
	q = p.clone()
	q.word(q.at(inL2)+16, data(0))
	finds(t, q, noEntry(2048+16))
	q = p.clone()
	q.word(q.at(inL2)+16, data(p.at(inCounts)))
	finds(t, q, twice(512, 2), low(512, 2, 1))
}

// P15.1: the head's own cluster is held by the head alone, whatever leads there.
func TestHeadsOwnCluster(t *testing.T) {
	p := drawn(t, 9, 4)
	for _, x := range []uint64{2, packed(0, 5), packed(3, 5), packed(511, 1), packed(500, 12), packed(510, 4)} {
		q := p.clone()
		q.word(q.at(inL2)+16, x)
		r := finds(t, q, noEntry(2048+16))
		if r.Data != 2 || r.Packed != 2 {
			t.Error(r)
		}
	}
	for _, x := range []uint64{1, 8, 100, 511} {
		for _, at := range []int64{p.at(inCounts) + 8, p.at(inL1) + 8, p.at(inTwoL1)} {
			q := p.clone()
			q.word(at, x)
			finds(t, q, place(at))
		}
	}
	m, _ := Holders(p.b)
	if m[0] != 1 {
		t.Error(m)
	}
	p.count(0, 0)
	finds(t, p, low(0, 1, 0))
	p.count(0, 9)
	finds(t, p, leak(0, 1, 9))
}

// P15.1: a word that is no entry is told where it stands; those behind it are gone into all the same.
func TestWordsThatAreNone(t *testing.T) {
	p := drawn(t, 9, 4)
	for _, x := range []uint64{4, 5, 8, 1 << 63, 1<<63 | 1, 3, 7, packed(1020, 5), packed(1024, 512), packed(1024, 0), packed(300, 1), 2, 514 + 4, 513 + 2, data(api.MaxFile + 512), packed(api.MaxFile, 1), packed(api.MaxFile-1, 2), 1<<64 - 1, 1<<64 - 2, 1<<48 | 2} {
		q := p.clone()
		q.word(q.at(inL2)+24, x)
		if r := finds(t, q, noEntry(2048+24)); r.Data != 2 || r.Packed != 2 || r.Zero != 2 || r.Held != made-1 {
			t.Errorf("%x: %v", x, r)
		}
	}
	for i := range int64(64) {
		q := p.clone()
		q.word(q.at(inL2)+8*i, 12)
		q.settle()
		finds(t, q, noEntry(2048+8*i))
	}
	q := p.clone()
	for i := range int64(64) {
		q.word(q.at(inL2)+8*i, 12)
	}
	if r := told(t, q.b); len(r.Finds) != 64+2 || r.Finds[63] != noEntry(2048+504) || r.Data != 1 || r.Zero != 1 || r.Packed != 0 {
		t.Error(r)
	}
	// In a table that three trees lead to it is told once.
	q = p.clone()
	q.word(q.at(inShared)+16, 12)
	if r := finds(t, q, noEntry(5*512+16)); r.Zero != 2 {
		t.Error(r)
	}
}

// P15.1: a list that cannot be read is told where it begins; what comes behind it is gone into all the same.
func TestListsThatCannotBeRead(t *testing.T) {
	p := drawn(t, 9, 4)
	q := p.clone()
	q.b[q.at(inSnaps)+2] = 0
	r := finds(t, q, leak(5*512, 1, 3), leak(7*512, 1, 3), noList(9*512), leak(10*512, 0, 1), leak(11*512, 0, 1))
	if r.Held != made-3 {
		t.Error(r)
	}
	q = p.clone()
	q.b[q.at(inBitmaps)+1] = 0
	if r = finds(t, q, noList(12*512), leak(13*512, 0, 1), leak(14*512, 0, 1)); r.Held != made-3 {
		t.Error(r)
	}
	q.b[q.at(inSnaps)+2] = 0
	q.settle()
	finds(t, q, noList(9*512), noList(12*512))
	for _, change := range []func(h *api.Head){
		func(h *api.Head) { h.Snaps++ },
		func(h *api.Head) { h.Snaps-- },
		func(h *api.Head) { h.SnapsLen++ },
		func(h *api.Head) { h.SnapsLen-- },
		func(h *api.Head) { h.SnapsLen = 600 },
		func(h *api.Head) { h.SnapsAt = 15 * 512 },
	} {
		q := p.clone()
		change(&q.h)
		q.seal(t)
		q.settle()
		r := told(t, q.b)
		if !slices.Contains(r.Finds, noList(q.h.SnapsAt)) || r.Held < made-3 {
			t.Error(r)
		}
	}
	for _, change := range []func(h *api.Head){
		func(h *api.Head) { h.Bitmaps++ },
		func(h *api.Head) { h.Bitmaps-- },
		func(h *api.Head) { h.BitmapsLen++ },
		func(h *api.Head) { h.BitmapsLen-- },
		func(h *api.Head) { h.BitmapsAt = 15 * 512 },
	} {
		q := p.clone()
		change(&q.h)
		q.seal(t)
		q.settle()
		finds(t, q, noList(q.h.BitmapsAt))
	}
	// Both lists at one place: neither may be there beside the other, and what cannot be read is told once.
	q = p.clone()
	q.h.SnapsAt, q.h.BitmapsAt = 15*512, 15*512
	q.seal(t)
	q.settle()
	finds(t, q, noList(15*512), twice(15*512, 2))
}

// P15.1: several finds at one place, by rising kinds, each told once.
func TestFindsAtOnePlace(t *testing.T) {
	p := drawn(t, 9, 4)
	// The list's cluster is held by data, too, and counted once; the list is none.
	q := p.clone()
	q.b[q.at(inBitmaps)] = 0
	q.word(q.at(inL2)+16, data(q.at(inBitmaps)))
	q.settle()
	q.count(inBitmaps, 1)
	finds(t, q, noList(12*512), twice(12*512, 2), low(12*512, 2, 1))
	// The list's places are wrong, of both snapshots: one find; its cluster has a count too many.
	q = p.clone()
	q.list(t, []api.Snap{{Name: "one", L1: 512 * made, L1Len: 1}, {Name: "two", L1: 512 * (made + 1), L1Len: 2}, {Name: "three", L1: 512 * (made - 1), L1Len: 65}}, nil)
	q.settle()
	q.count(inSnaps, 5)
	finds(t, q, place(9*512), leak(9*512, 1, 5))
	// An L1 table that is an L2 table as well, whose first word is both a place that is none and no entry.
	q = p.clone()
	q.word(q.at(inL1), uint64(q.at(inL1)))
	q.word(q.at(inL1)+8, 1000)
	q.settle()
	q.count(inL1, 1)
	finds(t, q, noEntry(3*512), twice(3*512, 2), low(3*512, 2, 1), place(3*512+8), noEntry(3*512+8), noEntry(3*512+16))
	if r := told(t, q.b); r.Data != 1 {
		t.Error(r)
	}
}

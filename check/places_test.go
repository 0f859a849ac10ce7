package check

import (
	"slices"
	"testing"

	"palimpsest/api"
	"palimpsest/tables"
)

// tail is a picture whose last cluster is not whole: so many bytes of it are there.
func tail(t testing.TB, bits int, more int64) *picture {
	p := drawn(t, bits, 4)
	p.b = append(p.b, make([]byte, more)...)
	return p
}

// spots are places that may lie anywhere, with whether a run of one cluster there lies within the file.
func spots(p *picture) map[int64]bool {
	c := p.c
	return map[int64]bool{
		c: true, 2 * c: true, c * (made - 1): true, c * (made - 2): true,
		c * made: false, c * (made + 1): false, c * 1000: false, api.MaxFile: false,
	}
}

// wild are places that no run may have, as words of tables.
func wild(p *picture) []uint64 {
	c := uint64(p.c)
	return []uint64{1, 2, 8, 256, c - 1, c + 1, c + 8, c*3/2 + 4, 2*c - 1, c*made - 1, c*made + 1, c * made, api.MaxFile + c, 1 << 40, 1<<63 - c, 1 << 63, 1<<63 + c, -c, -c + 1, 1<<64 - 1}
}

// P15.1: a place of a block, and of an L2 table, of each tree: it is told where it stands, and is not gone into.
func TestPlacesInTables(t *testing.T) {
	for _, bits := range []int{9, 12} {
		for _, more := range []int64{0, 1, 1<<bits - 1} {
			p := tail(t, bits, more)
			for _, at := range []int64{p.at(inCounts) + 8, p.at(inCounts+1) - 8, p.at(inL1) + 8, p.at(inTwoL1)} {
				for _, x := range wild(p) {
					q := p.clone()
					q.word(at, x)
					finds(t, q, place(at))
				}
				for x, is := range spots(p) {
					q := p.clone()
					q.word(at, uint64(x))
					r := told(t, q.b)
					if slices.Contains(r.Finds, place(at)) == is || !r.Broken {
						t.Fatal(bits, at, x, r)
					}
				}
				// The file's last whole cluster is free: it lies within the file, and only its count is wrong.
				q := p.clone()
				q.word(at, uint64(p.at(inFree)))
				finds(t, q, low(p.at(inFree), 1, 0))
			}
		}
	}
}

// P15.1: places of data and of packed bytes.
func TestPlacesInEntries(t *testing.T) {
	for _, bits := range []int{9, 12} {
		for _, more := range []int64{0, 1, 1<<bits - 1} {
			p := tail(t, bits, more)
			at := p.at(inL2) + 16
			for x, is := range spots(p) {
				q := p.clone()
				q.word(at, data(x))
				r := told(t, q.b)
				if slices.Contains(r.Finds, place(at)) == is || r.Data != map[bool]int64{true: 3, false: 2}[is] || r.Packed != 2 {
					t.Fatal(bits, x, r)
				}
				if x == api.MaxFile {
					continue
				}
				for _, inner := range []int64{0, 1, p.c - 1} {
					q = p.clone()
					q.word(at, packed(x+inner, 1))
					r = told(t, q.b)
					if slices.Contains(r.Finds, place(at)) == is || slices.Contains(r.Finds, noPack(at)) != is || r.Packed != map[bool]int64{true: 3, false: 2}[is] || r.Data != 2 {
						t.Fatal(bits, x, r)
					}
				}
			}
			q := p.clone()
			q.word(at, data(p.at(inFree)))
			finds(t, q, low(p.at(inFree), 1, 0))
			q.word(at, data(p.at(made)))
			finds(t, q, place(at))
			// Of a snapshot's tree alone it is told, too, and counted in no tree's entries.
			q = p.clone()
			q.word(q.at(inTwoL1), uint64(q.at(inFree)))
			q.word(q.at(inFree), data(q.at(made+3)))
			q.word(q.at(inFree)+8, packed(q.at(made)+2, 2))
			q.word(q.at(inFree)+16, 1)
			q.settle()
			if r := finds(t, q, place(q.at(inFree)), place(q.at(inFree)+8)); r.Data != 2 || r.Packed != 2 || r.Zero != 2 {
				t.Error(r)
			}
		}
	}
}

// P15.1: the head's own places are told where they stand in it; what they lead to is not gone into.
func TestPlacesOfTheHead(t *testing.T) {
	for _, bits := range []int{9, 13} {
		for _, more := range []int64{0, 1, 1<<bits - 1} {
			p := tail(t, bits, more)
			for _, row := range []struct {
				at  int64
				put func(h *api.Head, place int64)
			}{
				{24, func(h *api.Head, place int64) { h.L1 = place }},
				{40, func(h *api.Head, place int64) { h.Counts = place }},
				{56, func(h *api.Head, place int64) { h.SnapsAt = place }},
				{72, func(h *api.Head, place int64) { h.BitmapsAt = place }},
			} {
				for x, is := range spots(p) {
					q := p.clone()
					row.put(&q.h, x)
					q.seal(t)
					r := told(t, q.b)
					if slices.Contains(r.Finds, place(row.at)) == is {
						t.Fatal(bits, row.at, x, r)
					}
				}
				q := p.clone()
				row.put(&q.h, p.at(made))
				q.seal(t)
				if row.at != 40 {
					q.settle()
					finds(t, q, place(row.at))
				}
			}
		}
	}
}

// P15.1: without the counts' table all counts are 0, and what else there is is gone through all the same.
func TestWithoutCounts(t *testing.T) {
	p := drawn(t, 9, 4)
	p.h.Counts = p.at(made)
	p.seal(t)
	finds(t, p, low(0, 1, 0), place(40), low(3*512, 1, 0), low(4*512, 1, 0), low(5*512, 3, 0), low(6*512, 1, 0), low(7*512, 3, 0), low(8*512, 2, 0),
		low(9*512, 1, 0), low(10*512, 1, 0), low(11*512, 1, 0), low(12*512, 1, 0), low(13*512, 1, 0), low(14*512, 1, 0))
	// A block that does not lie within the file: likewise, but for the table.
	p = drawn(t, 9, 4)
	p.word(512, uint64(p.at(made)))
	finds(t, p, low(0, 1, 0), place(512), low(512, 1, 0), low(3*512, 1, 0), low(4*512, 1, 0), low(5*512, 3, 0), low(6*512, 1, 0), low(7*512, 3, 0), low(8*512, 2, 0),
		low(9*512, 1, 0), low(10*512, 1, 0), low(11*512, 1, 0), low(12*512, 1, 0), low(13*512, 1, 0), low(14*512, 1, 0))
}

// P15.1: a run whose first cluster lies within the file and whose last one does not holds nothing.
func TestRunsThatReachBeyond(t *testing.T) {
	for _, more := range []int64{0, 1, 511} {
		p := tail(t, 9, more)
		bend := func(change func(h *api.Head)) *picture {
			q := p.clone()
			change(&q.h)
			q.seal(t)
			q.settle()
			return q
		}
		finds(t, bend(func(h *api.Head) { h.L1, h.L1Len = p.at(inFree), 64 }))
		finds(t, bend(func(h *api.Head) { h.L1, h.L1Len = p.at(inFree), 65 }), place(24))
		finds(t, bend(func(h *api.Head) { h.L1, h.L1Len = p.at(inFree-1), 129 }), place(24))
		finds(t, bend(func(h *api.Head) { h.L1, h.L1Len = p.at(1), 1<<20 }), place(24))
		finds(t, bend(func(h *api.Head) { h.SnapsAt, h.SnapsLen = p.at(inFree), 512 }), noList(p.at(inFree)))
		finds(t, bend(func(h *api.Head) { h.SnapsAt, h.SnapsLen = p.at(inFree), 513 }), place(56))
		finds(t, bend(func(h *api.Head) { h.SnapsAt, h.SnapsLen = p.at(1), 1<<16 }), place(56))
		finds(t, bend(func(h *api.Head) { h.BitmapsAt, h.BitmapsLen = p.at(inFree), 512 }), noList(p.at(inFree)))
		finds(t, bend(func(h *api.Head) { h.BitmapsAt, h.BitmapsLen = p.at(inFree), 513 }), place(72))
		finds(t, bend(func(h *api.Head) { h.BitmapsAt, h.BitmapsLen = p.at(inFree), 1<<16 }), place(72))
		for many, is := range map[int]bool{1: true, 2: false, 1 << 16: false} {
			q := bend(func(h *api.Head) { h.Counts, h.CountsLen = p.at(inFree), many })
			if r := told(t, q.b); slices.Contains(r.Finds, place(40)) == is || r.Held != map[bool]int64{true: made - 2, false: made - 3}[is] {
				t.Error(many, r)
			}
		}
	}
}

// P15.1: places in the lists are told where the list begins, whichever of them it is; what else stands in the list is gone into.
func TestPlacesInLists(t *testing.T) {
	for _, more := range []int64{0, 1, 511} {
		p := tail(t, 9, more)
		for x, is := range spots(p) {
			for _, first := range []bool{false, true} {
				l := []api.Snap{{Name: "x", L1: x, L1Len: 1, Size: 512}, {Name: "one", L1: p.at(inOneL1), L1Len: 1}}
				rows := []api.Row{{Name: "x", Gran: 9, At: x, Len: 1}, {Name: "r", Gran: 9, At: p.at(inRow), Len: 513}}
				if first {
					slices.Reverse(l)
					slices.Reverse(rows)
				}
				q := p.clone()
				q.list(t, l, rows[:0])
				q.settle()
				if r := told(t, q.b); slices.Contains(r.Finds, place(q.at(inSnaps))) == is || r.Held < 11 {
					t.Fatal(x, r)
				}
				q = p.clone()
				q.list(t, l[:0], rows)
				q.settle()
				if r := told(t, q.b); slices.Contains(r.Finds, place(q.at(inBitmaps))) == is || r.Held < 12 {
					t.Fatal(x, r)
				}
			}
		}
		for long, is := range map[int]bool{1: true, 512: true, 513: false, 1 << 24: false} {
			q := p.clone()
			q.list(t, nil, []api.Row{{Name: "x", Gran: 9, At: p.at(inFree), Len: long}})
			q.settle()
			r := told(t, q.b)
			if is && (len(r.Finds) != 0 || r.Held != 11) || !is && !slices.Equal(r.Finds, []api.Find{place(q.at(inBitmaps))}) {
				t.Error(long, r)
			}
		}
		for long, is := range map[int]bool{1: true, 64: true, 65: false, 1 << 20: false} {
			q := p.clone()
			q.list(t, []api.Snap{{Name: "x", L1: p.at(inFree), L1Len: long}}, nil)
			q.settle()
			r := told(t, q.b)
			if is && (len(r.Finds) != 0 || r.Held != 11) || !is && !slices.Equal(r.Finds, []api.Find{place(q.at(inSnaps))}) {
				t.Error(long, r)
			}
		}
	}
}

// P15.1: what has no entries, and no bytes, has no place that could be wrong.
func TestNothingToLeadTo(t *testing.T) {
	p := drawn(t, 9, 4)
	p.list(t, []api.Snap{{Name: "e"}, {Name: "f", Size: 512}}, []api.Row{{Name: "e", Gran: 9}, {Name: "f", Gran: 31, Flags: 3}})
	p.settle()
	if r := finds(t, p); r.Held != 11 {
		t.Error(r)
	}
	p.h.L1, p.h.L1Len, p.h.Size = 0, 0, 0
	p.seal(t)
	p.settle()
	if r := finds(t, p); r.Held != 5 || r.Data != 0 || r.Packed != 0 || r.Zero != 0 || r.Clusters != made {
		t.Error(r)
	}
}

// P15.1: a list of as many as may be, and one that touches several clusters, is gone through to its end.
func TestLongLists(t *testing.T) {
	p := drawn(t, 9, 6)
	var snaps []api.Snap
	for i := range api.MaxSnaps {
		snaps = append(snaps, api.Snap{Name: string(rune('0' + i)), L1: p.at(inTwoL1), L1Len: 2})
	}
	s, no := tables.Snaps(9, snaps...)
	want(t, no, api.OK)
	p.list(t, nil, nil)
	p.b = append(p.b, s...)
	p.b = append(p.b, make([]byte, 511)...)
	p.h.Snaps, p.h.SnapsAt, p.h.SnapsLen = len(snaps), p.at(made), len(s)
	p.seal(t)
	p.settle()
	if r := finds(t, p, twice(p.at(inTwoL1), 64)); r.Held != 9+1+int64(len(s)+511)/512 {
		t.Error(r)
	}
	m, _ := Holders(p.b)
	if m[inShared] != 65 || m[inOther] != 65 || m[inTwoL1] != 64 {
		t.Error(m)
	}
}

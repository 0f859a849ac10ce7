package check

import (
	"encoding/binary"
	"slices"
	"testing"

	"palimpsest/api"
	"palimpsest/deflate"
	"palimpsest/head"
	"palimpsest/tables"
)

// plain is a plain way of reckoning, by the chapter's words: each way through the tables is gone by itself.
type plain struct {
	b              []byte
	h              api.Head
	c, whole       int64
	holders        map[int64][]string // what holds a cluster, each one by its kind
	list           []api.Find
	data, zero, pk int64
}

// plainly reckons bytes that have a head.
func plainly(b []byte) *plain {
	h, no := head.Read(b)
	if no != api.OK {
		return nil
	}
	p := &plain{b: b, h: h, c: 1 << h.Bits, whole: int64(len(b)) >> h.Bits, holders: map[int64][]string{}}
	p.holders[0] = []string{"head"}
	if p.run(40, uint64(h.Counts), int64(h.CountsLen)*p.c, "counts") {
		p.blocks(func(_, at int64, place uint64) { p.run(at, place, p.c, "block") })
	}
	p.tree(24, h.L1, h.L1Len, true)
	if h.Snaps > 0 && p.run(56, uint64(h.SnapsAt), int64(h.SnapsLen), "snaps") {
		l, no := tables.ReadSnaps(h.Bits, b[h.SnapsAt:h.SnapsAt+int64(h.SnapsLen)], h.Snaps)
		if no != api.OK {
			p.find(api.FindList, h.SnapsAt, 0, 0)
		}
		for _, s := range l {
			p.tree(h.SnapsAt, s.L1, s.L1Len, false)
		}
	}
	if h.Bitmaps > 0 && p.run(72, uint64(h.BitmapsAt), int64(h.BitmapsLen), "bitmaps") {
		l, no := tables.ReadRows(h.Bits, b[h.BitmapsAt:h.BitmapsAt+int64(h.BitmapsLen)], h.Bitmaps)
		if no != api.OK {
			p.find(api.FindList, h.BitmapsAt, 0, 0)
		}
		for _, r := range l {
			if r.Len != 0 {
				p.run(h.BitmapsAt, uint64(r.At), int64(r.Len), "row")
			}
		}
	}
	return p
}

func (p *plain) find(kind api.FindKind, at int64, want, have uint64) {
	f := api.Find{Kind: kind, At: at, Want: want, Have: have}
	if !slices.Contains(p.list, f) {
		p.list = append(p.list, f)
	}
}

// lies: does a run lie within the file?
func (p *plain) lies(place uint64, long int64) bool {
	if place == 0 || place%uint64(p.c) != 0 || place >= uint64(p.whole*p.c) {
		return false
	}
	last := int64(place) + long - 1
	return last/p.c < p.whole
}

func (p *plain) run(at int64, place uint64, long int64, kind string) bool {
	if !p.lies(place, long) {
		p.find(api.FindPlace, at, 0, 0)
		return false
	}
	for k := int64(place); k < int64(place)+long; k += p.c {
		p.holders[k/p.c] = append(p.holders[k/p.c], kind)
	}
	return true
}

func (p *plain) get(at int64) uint64 { return binary.LittleEndian.Uint64(p.b[at:]) }

// blocks goes over the places of the counts' table, if it lies within the file.
func (p *plain) blocks(each func(i, at int64, place uint64)) {
	long := int64(p.h.CountsLen) * p.c
	if !p.lies(uint64(p.h.Counts), long) {
		return
	}
	for i := range long / 8 {
		if x := p.get(p.h.Counts + 8*i); x != 0 {
			each(i, p.h.Counts+8*i, x)
		}
	}
}

func (p *plain) tree(at, l1 int64, long int, active bool) {
	if long == 0 || !p.run(at, uint64(l1), 8*int64(long), "l1") {
		return
	}
	for i := range int64(long) {
		x := p.get(l1 + 8*i)
		if x == 0 || !p.run(l1+8*i, x, p.c, "l2") {
			continue
		}
		for k := int64(x); k < int64(x)+p.c; k += 8 {
			p.entry(k, p.get(k), active)
		}
	}
}

func (p *plain) entry(at int64, x uint64, active bool) {
	long, place := x>>2&(1<<14-1), x>>16
	switch {
	case x == 0:
	case x == 1:
		count(&p.zero, active)
	case x&3 == 2 && x>>2 > 0 && (x-2)%uint64(p.c) == 0 && x-2 <= api.MaxFile:
		if p.run(at, x-2, p.c, "data") {
			count(&p.data, active)
		}
	case x&3 == 3 && long > 0 && long < uint64(p.c) && place >= uint64(p.c) && place+long <= api.MaxFile && place/uint64(p.c) == (place+long-1)/uint64(p.c):
		if p.run(at, place/uint64(p.c)*uint64(p.c), p.c, "packed") {
			count(&p.pk, active)
			b, _, no := deflate.Unpack(p.b[place:place+long], int(p.c))
			if no != api.OK || int64(len(b)) != p.c {
				p.find(api.FindPacked, at, 0, 0)
			}
		}
	default:
		p.find(api.FindEntry, at, 0, 0)
	}
}

func count(n *int64, active bool) {
	if active {
		*n++
	}
}

// counts tells all counts that are not 0, by clusters.
func (p *plain) counts() map[int64]uint64 {
	m := map[int64]uint64{}
	width := int64(1) << p.h.Order
	many := p.c * 8 / width
	p.blocks(func(i, _ int64, place uint64) {
		if !p.lies(place, p.c) {
			return
		}
		for k := range p.c * 8 {
			if p.b[int64(place)+k/8]>>(k%8)&1 == 1 {
				m[i*many+k/width] |= 1 << (k % width)
			}
		}
	})
	return m
}

// report tells all finds, in order, and the rest.
func (p *plain) report() api.Report {
	counts := p.counts()
	for k, l := range p.holders {
		alone := slices.ContainsFunc(l, func(kind string) bool { return kind != "l2" && kind != "data" && kind != "packed" })
		other := slices.ContainsFunc(l, func(kind string) bool { return kind != l[0] })
		if other || alone && len(l) > 1 {
			p.list = append(p.list, api.Find{Kind: api.FindTwice, At: k * p.c, Want: 1, Have: uint64(len(l))})
		}
		if counts[k] < uint64(len(l)) {
			p.list = append(p.list, api.Find{Kind: api.FindLow, At: k * p.c, Want: uint64(len(l)), Have: counts[k]})
		}
	}
	for k, have := range counts {
		if want := uint64(len(p.holders[k])); have > want {
			p.list = append(p.list, api.Find{Kind: api.FindLeak, At: k * p.c, Want: want, Have: have})
		}
	}
	slices.SortFunc(p.list, func(a, b api.Find) int {
		if a.At != b.At {
			return int(max(min(a.At-b.At, 1), -1))
		}
		return int(a.Kind - b.Kind)
	})
	r := api.Report{Finds: p.list, Clusters: p.whole, Held: int64(len(p.holders)), Data: p.data, Packed: p.pk, Zero: p.zero}
	for _, f := range p.list {
		r.Broken = r.Broken || f.Kind != api.FindLeak
	}
	return r
}

// same holds a report against the plain one.
func same(t testing.TB, b []byte, r api.Report) {
	t.Helper()
	w := plainly(b).report()
	if !slices.Equal(r.Finds, w.Finds) {
		t.Fatalf("finds %v\nwant  %v", r.Finds, w.Finds)
	}
	if r.Broken != w.Broken || r.Clusters != w.Clusters || r.Held != w.Held || r.Data != w.Data || r.Packed != w.Packed || r.Zero != w.Zero {
		t.Fatalf("%+v\nwant %+v", r, w)
	}
}

// sameHolders holds holders against the plain ones.
func sameHolders(t testing.TB, b []byte, m map[int64]uint64) {
	t.Helper()
	p := plainly(b)
	if len(m) != len(p.holders) {
		t.Fatal(m, p.holders)
	}
	for k, l := range p.holders {
		if m[k] != uint64(len(l)) {
			t.Fatal(k, m[k], l)
		}
	}
}

package refs

import (
	"math"
	"testing"

	"palimpsest/api"
)

// P16.3: the chapter's examples.
func TestExamples(t *testing.T) {
	_, r := right(t, 9, 4, 1).opened(t)
	counted(t, r, 0, 1)
	place, no := r.Alloc(1)
	want(t, no, api.OK)
	counted(t, r, place/512, 1)
	want(t, r.Add(1, place/512), api.OK)
	counted(t, r, place/512, 2)
	want(t, r.Free(place, 1), api.OK)
	want(t, r.Free(place, 1), api.OK)
	counted(t, r, place/512, 0)
	want(t, r.Free(place, 1), api.ErrBroken)
	uncounted(t, r, -1, api.ErrRange)
	untaken(t, r, 0, api.ErrArg)
	want(t, r.Free(place+1, 1), api.ErrRange)
}

// P16.3: places that are no cluster's, and how many.
func TestFreeRefuses(t *testing.T) {
	for bits := 9; bits <= 16; bits++ {
		c := int64(1) << bits
		p := right(t, bits, 6, 1)
		s, r := p.opened(t)
		room := r.Room()
		unchanged(t, s, func() {
			for _, n := range []int{0, -1, 1<<20 + 1, math.MaxInt, math.MinInt} {
				for _, place := range []int64{0, c, -1, 1, room * c} {
					want(t, r.Free(place, n), api.ErrArg)
				}
			}
			for _, place := range []int64{-1, -c, -c - 1, math.MinInt64, 1, c - 1, c + 1, 2*c + 8, c + c/2, math.MaxInt64, room*c + 1} {
				want(t, r.Free(place, 1), api.ErrRange)
				want(t, r.Free(place, 1<<20), api.ErrRange)
			}
			for _, place := range []int64{room * c, (room + 1) * c, math.MaxInt64 / c * c} { // clusters beyond the room
				want(t, r.Free(place, 1), api.ErrRange)
			}
			want(t, r.Free((room-1)*c, 2), api.ErrRange)
			want(t, r.Free((room-1)*c, 1), api.ErrBroken)
			if room < 1<<20 {
				want(t, r.Free(0, int(room)+1), api.ErrRange)
				want(t, r.Free(0, 1<<20), api.ErrRange)
			}
			want(t, r.Free(0, 4), api.ErrBroken)
			want(t, r.Free(3*c, 1), api.ErrBroken)
		})
		want(t, r.Free(0, 3), api.OK) // nobody asks who holds them
		for k := range int64(4) {
			counted(t, r, k, 0)
		}
	}
}

// P16.3: whole runs, runs in two blocks and more, and runs of which one cluster's count is 0, wherever it lies.
func TestFreeOfRuns(t *testing.T) {
	for order := range 7 {
		p := right(t, 9, order, 1).grown(6)
		per := int64(4096 >> order)
		p.block(1, 3)
		p.block(2, 4)
		p.block(3, 5)
		for k := range 4 * per {
			p.count(k, 1)
		}
		for _, c := range []struct{ first, n int64 }{{7, 1}, {6, 9}, {per - 1, 2}, {per - 3, 5}, {per, per}, {per - 1, per + 2}, {per + 5, 2*per + 3}, {0, 4 * per}} {
			s, r := p.opened(t)
			w := reckon(p.h, p.b)
			after, no := w.added(-1, run(c.first, int(c.n))...)
			want(t, no, api.OK)
			want(t, r.Free(c.first*512, int(c.n)), api.OK)
			sameBytes(t, s, after.b, order, c)
			if s.Pending() == 0 {
				t.Error("it is not to be flushed")
			}
			sameBytes(t, lasting(t, s), p.b)
			want(t, s.Flush(file), api.OK)
			unchanged(t, s, func() { want(t, r.Free(c.first*512, int(c.n)), api.ErrBroken) })
			// One of them is free: nothing is changed.
			for _, k := range []int64{c.first, c.first + c.n/2, c.first + c.n - 1} {
				s, r := p.opened(t)
				want(t, r.Free(k*512, 1), api.OK)
				unchanged(t, s, func() { want(t, r.Free(c.first*512, int(c.n)), api.ErrBroken) })
			}
		}
		s, r := p.opened(t)
		unchanged(t, s, func() {
			want(t, r.Free((4*per-1)*512, 2), api.ErrBroken) // into a missing block
			want(t, r.Free(4*per*512, 1), api.ErrBroken)
		})
	}
}

// P16.3: what was taken is given back, and is as it was.
func TestFreeOfWhatWasTaken(t *testing.T) {
	for order := range 7 {
		for n := 1; n < 200; n = n*2 + 1 {
			p := right(t, 10, order, 1)
			s, r := p.opened(t)
			if int64(n) >= r.perBlock() {
				continue
			}
			first := took(t, r, n)
			b := whole(t, s)
			want(t, r.Add(1, run(first, n)...), map[bool]api.Errno{true: api.ErrFull, false: api.OK}[order == 0])
			if order > 0 {
				want(t, r.Free(first*1024, n), api.OK)
			}
			sameBytes(t, s, b)
			want(t, r.Free(first*1024, n), api.OK)
			for _, k := range run(first, n) {
				counted(t, r, k, 0)
			}
			counted(t, r, 2, 1)
			if k := took(t, r, n); k != first {
				t.Error(k, first)
			}
			sameBytes(t, s, b)
		}
	}
}

package refs

import (
	"math"
	"math/rand"
	"slices"
	"testing"

	"palimpsest/api"
	"palimpsest/check"
	"palimpsest/store"
)

// takes holds an Alloc against the plain way: a run that was free, counts of 1, all other bytes as they were, and that it lasts; or that nothing has changed.
func takes(t testing.TB, s *store.Store, p *picture, r *Refs, n int) (int64, api.Errno) {
	t.Helper()
	before := reckon(p.h, whole(t, s))
	was := s.Copy()
	place, no := r.Alloc(n)
	if no != api.OK {
		if !s.Same(was) || place != 0 {
			t.Fatalf("Alloc(%d): %d, %v, and the file has changed", n, place, no)
		}
		if should := before.refusal(n); no != should {
			t.Fatalf("Alloc(%d): %v, want %v", n, no, should)
		}
		return 0, no
	}
	clusters := run(place/p.c, n)
	if place%p.c != 0 || !before.sound() || !before.allFree(clusters) {
		t.Fatalf("Alloc(%d): %d, which was not free", n, place)
	}
	after, no := before.added(1, clusters...)
	want(t, no, api.OK)
	after.grow(place + int64(n)*p.c)
	sameBytes(t, s, after.b, "Alloc", n, place)
	for _, k := range clusters {
		counted(t, r, k, 1)
	}
	if s.Pending() != 0 {
		t.Fatal("it does not last", n)
	}
	return place / p.c, api.OK
}

// refusal is why no run can be taken.
func (p *plain) refusal(n int) api.Errno {
	switch {
	case !p.sound():
		return api.ErrBroken
	case p.longest() < n:
		return api.ErrFull
	}
	for k := int64(0); k < p.room(); k += p.per {
		if place, _ := p.block(k); place == 0 && p.taken(p.home(k)) {
			return api.ErrBroken
		}
	}
	return api.OK
}

// P16.3: how many.
func TestAllocHowMany(t *testing.T) {
	s, r := right(t, 9, 0, 8).opened(t)
	if r.Room() < 1<<20+1 {
		t.Fatal(r.Room())
	}
	unchanged(t, s, func() {
		for _, n := range []int{0, -1, 1<<20 + 1, math.MaxInt, math.MinInt} {
			untaken(t, r, n, api.ErrArg)
		}
		untaken(t, r, 1<<20, api.ErrFull) // no file can have so many
	})
	if k := took(t, r, 1); k < 10 {
		t.Error(k)
	}
}

// P16.3: as many as are free behind one another, and one more, of each width.
func TestAllocTheLongest(t *testing.T) {
	for order := range 7 {
		for _, bits := range []int{9, 10} {
			p := right(t, bits, order, 1)
			w := reckon(p.h, p.b)
			// The cluster of a missing block is kept, so none is longer than that block's others.
			if int(w.per)-1 != w.longest() {
				t.Fatal(order, w.longest(), w.per)
			}
			s, r := p.opened(t)
			_, no := takes(t, s, p, r, int(w.per))
			want(t, no, api.ErrFull)
			first := took(t, r, int(w.per)-1)
			if first%w.per != 1 {
				t.Error(order, first)
			}
			counted(t, r, first-1, 1)
			leaky(t, s)
			k, no := takes(t, s, p, r, int(w.per)-3)
			want(t, no, api.OK)
			if k != 3 {
				t.Error("the first block has just so many", k)
			}
		}
	}
}

// P16.3: runs over the bounds of blocks, and over a missing one into one that is there; the first cluster of a missing one is never in them.
func TestAllocOverBlocks(t *testing.T) {
	p := right(t, 9, 6, 1).grown(6)
	p.block(1, 3) // the blocks 0, 1 and 3, 4 are there, 2 is missing
	p.block(3, 4)
	p.block(4, 5)
	for k := int64(3); k < 6; k++ {
		p.count(k, 1)
	}
	p.count(5*64-1, 9)
	for _, n := range []int{1, 57, 58, 59, 64, 65, 121, 122, 123, 126, 127, 128, 189, 190} {
		s, r := p.opened(t)
		k, no := takes(t, s, p, r, n)
		want(t, no, api.OK)
		if k <= 128 && k+int64(n) > 128 {
			t.Error("the kept one was taken", k, n)
		}
		if _, no := takes(t, s, p, r, n); n < 60 && no != api.OK {
			t.Error(n, no)
		}
	}
	s, r := p.opened(t)
	for _, n := range []int{191, 192, 193, 64 * 64} {
		unchanged(t, s, func() { untaken(t, r, n, api.ErrFull) })
	}
	if k := took(t, r, 190); k != 129 {
		t.Error("it goes over the missing block's end", k)
	}
}

// P16.3: within the file, up to its end, beyond it; in a last cluster that is not whole.
func TestAllocAndTheEnd(t *testing.T) {
	for _, bits := range []int{9, 12} {
		c := 1 << bits
		for _, tail := range []int{0, 1, c / 2, c - 1} {
			for n := 1; n <= 12; n++ {
				p := right(t, bits, 4, 1).grown(10)
				p.b = append(p.b, make([]byte, tail)...)
				for k := range p.b[3*c:] {
					p.b[3*c+k] = byte(k%250 + 1)
				}
				s, r := p.opened(t)
				k, no := takes(t, s, p, r, n)
				want(t, no, api.OK)
				size, _ := s.Size(file)
				if size < (k+int64(n))*int64(c) || size < int64(len(p.b)) {
					t.Fatal("the file has not these clusters", k, n, size)
				}
				leaky(t, s)
			}
		}
	}
}

// P16.3: up to the room's end.
func TestAllocUpToTheRoomsEnd(t *testing.T) {
	for left := int64(1); left <= 3; left++ {
		p := drawn(t, 9, 6, 1, 1, 66)
		for i := range int64(64) {
			p.block(i, 2+i)
		}
		room := int64(64 * 64)
		for k := range room - left {
			p.count(k, 1)
		}
		s, r := p.opened(t)
		_, no := takes(t, s, p, r, int(left)+1)
		want(t, no, api.ErrFull)
		k, no := takes(t, s, p, r, int(left))
		want(t, no, api.OK)
		if size, _ := s.Size(file); k != room-left || size != room*512 {
			t.Error(k, size)
		}
		unchanged(t, s, func() { untaken(t, r, 1, api.ErrFull) })
		want(t, r.Free(5*512, 1), api.OK)
		if k := took(t, r, 1); k != 5 {
			t.Error(k)
		}
		unchanged(t, s, func() { untaken(t, r, 1, api.ErrFull) })
	}
}

// Limits: up to the greatest file, though there is room for more clusters.
func TestAllocUpToTheGreatestFile(t *testing.T) {
	for _, n := range []int{4093, 4094, 5000} {
		s, r := right(t, 16, 6, 1).opened(t)
		if n > 4093 {
			unchanged(t, s, func() { untaken(t, r, n, api.ErrFull) })
			continue
		}
		if k := took(t, r, n); k != 3 {
			t.Error(k)
		}
		if size, _ := s.Size(file); size != api.MaxFile {
			t.Error(size)
		}
		counted(t, r, 4095, 1)
		counted(t, r, 4096, 0)
		unchanged(t, s, func() { untaken(t, r, 1, api.ErrFull) })
		want(t, r.Free(4095<<16, 1), api.OK)
		if k := took(t, r, 1); k != 4095 {
			t.Error(k)
		}
	}
}

// Errors: a place of whatever block that does not lie within the file is told ahead of there being no run, and of there being one.
func TestAllocOfBrokenBlocks(t *testing.T) {
	for _, i := range []int64{0, 1, 63, 64, 127} {
		for _, place := range []uint64{4 * 512, 5, 512 + 8, 1 << 40, 1 << 63} {
			p := right(t, 9, 4, 2)
			p.lead(i, place)
			s, r := p.opened(t)
			unchanged(t, s, func() {
				untaken(t, r, 1, api.ErrBroken)
				untaken(t, r, 300, api.ErrBroken)
				untaken(t, r, 1<<20, api.ErrBroken)
				untaken(t, r, 0, api.ErrArg)
			})
		}
	}
}

// peopled is an image with a guest, of which check finds nothing: an L1 table, an L2 table, data in the clusters 5 and 8; 6 and 7 are free.
func peopled(t testing.TB, order int) *picture {
	t.Helper()
	p := right(t, 9, order, 1)
	p.h.Size, p.h.L1, p.h.L1Len = 1024, 3*512, 1
	p.seal(t)
	p.grown(9)
	word := func(at int64, x uint64) { copy(p.b[at:], []byte{byte(x), byte(x >> 8), byte(x >> 16)}) }
	word(3*512, 4*512)
	word(4*512, 5*512|2)
	word(4*512+8, 8*512|2)
	for i := range 512 {
		p.b[5*512+i], p.b[8*512+i] = byte(i), byte(i*3)
	}
	for _, k := range []int64{3, 4, 5, 8} {
		p.count(k, 1)
	}
	if x, no := check.Bytes(p.b); no != api.OK || len(x.Finds) != 0 {
		t.Fatal(no, x)
	}
	return p
}

// P16.5: no run meets another one that was taken and not given back, nor a cluster with a holder; clusters that were given back are taken again.
func TestTakenOnce(t *testing.T) {
	t.Parallel()
	rnd := rand.New(rand.NewSource(165))
	for i := range 60 {
		p := peopled(t, i%7)
		s, r := p.opened(t)
		holders, no := check.Holders(p.b)
		want(t, no, api.OK)
		mine := map[int64]int{} // runs that were taken: their first clusters, how long they are
		of := map[int64]int64{} // whose run a cluster is in
		for range 40 {
			if len(mine) > 0 && rnd.Intn(3) == 0 {
				firsts := []int64{}
				for k := range mine {
					firsts = append(firsts, k)
				}
				slices.Sort(firsts)
				first := firsts[rnd.Intn(len(firsts))]
				want(t, r.Free(first*512, mine[first]), api.OK)
				for _, k := range run(first, mine[first]) {
					delete(of, k)
				}
				delete(mine, first)
				continue
			}
			n := 1 + rnd.Intn(5)
			first := took(t, r, n)
			mine[first] = n
			for _, k := range run(first, n) {
				if _, is := of[k]; is || holders[k] > 0 {
					t.Fatal("taken twice", k, of[k], holders[k])
				}
				of[k] = first
			}
		}
		leaky(t, s)
		leaky(t, lasting(t, s))
		for _, k := range []int{3, 4, 5, 8} {
			if have := whole(t, s)[k*512 : k*512+512]; !slices.Equal(have, p.b[k*512:k*512+512]) {
				t.Fatal("a holder's bytes have changed", k)
			}
		}
		if size, _ := s.Size(file); size > 512*200 {
			t.Error("what was given back is not taken again", size)
		}
	}
}

// P16.3: many images of all widths, against the plain way.
func TestAllocAgainstThePlainWay(t *testing.T) {
	t.Parallel()
	rnd := rand.New(rand.NewSource(163))
	told := map[api.Errno]int{}
	for i := range 500 {
		p := someImage(t, rnd, 9+i%2)
		if p.h.Order < 3 && i%5 > 0 {
			continue
		}
		s, r := p.opened(t)
		w := reckon(p.h, p.b)
		for _, n := range []int{1, 1 + rnd.Intn(5), 1 + rnd.Intn(60), w.longest() + rnd.Intn(2), 1} {
			if n > 2000 || n < 1 {
				continue
			}
			_, no := takes(t, s, p, r, n)
			told[no]++
		}
	}
	if told[api.OK] < 300 || told[api.ErrBroken] < 100 || told[api.ErrFull] < 50 {
		t.Error(told)
	}
}

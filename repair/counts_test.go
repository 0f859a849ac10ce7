package repair

import (
	"fmt"
	"math/rand"
	"slices"
	"testing"

	"palimpsest/api"
	"palimpsest/image"
	"palimpsest/refs"
	"palimpsest/store"
)

// tells lets an image be mended, and holds what is told against a row of the document.
func tells(t testing.TB, p *picture, should api.Fixed) *store.Store {
	t.Helper()
	s := p.laid()
	f, no := mended(t, s)
	if f != should || no != api.OK {
		t.Fatalf("%v %v, want %v", f, no, should)
	}
	return s
}

// P18.1: a new image, of each size of clusters and each width of counts; one that is right.
func TestNothingToMend(t *testing.T) {
	for bits := 9; bits <= 16; bits++ {
		for order := range 7 {
			if bits < 13 {
				s := tells(t, full(t, bits, order), api.Fixed{})
				if steps(s) != 6 {
					t.Error("steps", steps(s))
				}
			}
			tells(t, drawn(t, bits, order, 3).sealed(), api.Fixed{})
			s, _ := store.New()
			want(t, image.Create(s, "another", api.Make{Bits: bits, Order: order, Size: 5 << 9}), api.OK)
			want(t, image.Create(s, name, api.Make{Bits: bits, Order: order, Size: 5 << 9}), api.OK)
			if f, no := mended(t, s); f != (api.Fixed{}) || no != api.OK {
				t.Error(bits, order, f, no)
			}
		}
	}
}

// P18.1: each count alone raised by one and by two, lowered by one and to 0, as great as it can be; of what is held, and of what is not, also beyond the file.
func TestEachCountAlone(t *testing.T) {
	for order := range 7 {
		t.Run(fmt.Sprint(order), func(t *testing.T) {
			t.Parallel()
			p := full(t, 9, order)
			q := read(p.b)
			file := int64(len(p.b)) / p.c
			for _, k := range append(slices.Collect(q.upTo(file+3)), q.per()-2, q.per()-1) {
				is, there := q.count(k)
				if !there {
					t.Fatal("no block", k)
				}
				for _, x := range []uint64{is + 1, is + 2, is - 1, 0, q.most()} {
					switch {
					case x > q.most():
					case x > is:
						tells(t, p.bent(uint64(k), x), api.Fixed{Leaks: 1})
					case x < is:
						tells(t, p.bent(uint64(k), x), api.Fixed{Low: 1})
					}
				}
			}
		})
	}
}

// upTo goes over so many clusters.
func (p *plain) upTo(n int64) func(func(int64) bool) {
	return func(yield func(int64) bool) {
		for k := range n {
			if !yield(k) {
				return
			}
		}
	}
}

// wide is an image of clusters of 1024 bytes, so that a block has two sectors; it tells where in two blocks counts stand first and last, and lets all of those but the last two be held.
func wide(t testing.TB, order int) (*picture, []int64) {
	t.Helper()
	per, sector := int64(1024*8)>>order, int64(512*8)>>order
	p := drawn(t, 10, order, 2*per)
	ends := []int64{sector - 1, sector, per - 1, per, per + sector - 1, per + sector, 2*per - 2, 2*per - 1}
	words := make([]uint64, 128)
	for i, k := range ends[:6] {
		words[3+i] = data(k * p.c)
	}
	p.root(uint64(p.table(words...)))
	p.grown(2*per - 1)
	return p.sealed(), ends
}

// P18.1: the first and the last counts of blocks and of their sectors, alone and several at once, lowered and raised.
func TestEndsOfBlocksAndSectors(t *testing.T) {
	for order := range 7 {
		t.Run(fmt.Sprint(order), func(t *testing.T) {
			t.Parallel()
			p, ends := wide(t, order)
			q := read(p.b)
			rnd := rand.New(rand.NewSource(int64(order)))
			rounds := 12
			if order < 3 {
				rounds = 2
			}
			for i := range len(ends) + rounds {
				var pairs []uint64
				should := api.Fixed{}
				for n, k := range ends {
					if i < len(ends) && n != i || i >= len(ends) && rnd.Intn(2) == 0 {
						continue
					}
					is, _ := q.count(k)
					switch x := rnd.Uint64() & 3 & q.most(); {
					case is == 1 && (x < 2 || order == 0):
						should.Low++
						pairs = append(pairs, uint64(k), 0)
					default:
						should.Leaks++
						pairs = append(pairs, uint64(k), is+1)
					}
				}
				s := tells(t, p.bent(pairs...), should)
				sameBytes(t, whole(t, s), p.b)
			}
		})
	}
}

// P18.1: several of each at once, in all of an image that has all sorts of holders.
func TestManyCounts(t *testing.T) {
	for order := range 7 {
		t.Run(fmt.Sprint(order), func(t *testing.T) {
			t.Parallel()
			p := full(t, 9+order%2, order)
			q := read(p.b)
			rnd := rand.New(rand.NewSource(int64(order)))
			for range 100 {
				var pairs []uint64
				for range rnd.Intn(12) {
					pairs = append(pairs, uint64(rnd.Int63n(min(40, q.per()))), rnd.Uint64()&q.most()>>rnd.Intn(1<<order))
				}
				bent := p.bent(pairs...)
				s := bent.laid()
				_, no := mended(t, s)
				want(t, no, api.OK)
				sameBytes(t, whole(t, s), p.b)
			}
		})
	}
}

// P18.1: all counts 0, the blocks' own among them; all counts as great as they can be.
func TestAllCounts(t *testing.T) {
	for order := range 7 {
		p := full(t, 9, order)
		q := read(p.b)
		var none, most []uint64
		held := 0
		for k := range q.clusters {
			if is, _ := q.count(k); is > 0 {
				held++
			}
			none, most = append(none, uint64(k), 0), append(most, uint64(k), q.most())
		}
		tells(t, p.bent(none...), api.Fixed{Low: held})
		f, no := mended(t, p.bent(most...).laid())
		if f.Low != 0 || f.Leaks < int(q.per())-held || f.Dirty || no != api.OK {
			t.Error(f, no)
		}
	}
}

// P18.1: blocks in any order in the table, with missing ones between, all of them with counts that are wrong; sectors that nothing is wrong in are not written.
func TestBlocksInAnyOrder(t *testing.T) {
	p := drawn(t, 10, 6, 0) // a block has 128 counts
	table := p.h.Counts
	for _, i := range []int64{9, 0, 4, 127, 3} {
		p.word(table+8*i, uint64(p.take(p.c)))
	}
	p.row(4*128*1024, 3)
	p.grown(4*128 + 3)
	p.lists()
	p.sealed()
	far := uint64(127 * 128)
	bent := p.bent(0, 0, 5, 3, 3*128+70, 7, 4*128, 0, 4*128+1, 2, 4*128+2, 0, 9*128+1, 1, far, 1<<63, far+127, 1)
	s := bent.laid()
	f, no := mended(t, s)
	if f != (api.Fixed{Low: 3, Leaks: 6}) || no != api.OK {
		t.Error(f, no)
	}
	sameBytes(t, whole(t, s), p.b)
	// Of the writes: the sectors with 0, 4 * 128; then those with 5, 3 * 128 + 70, 4 * 128, 9 * 128, and both of the last block; a flush each.
	if n := steps(s) - steps(bent.laid()); n != 2+1+6+1 {
		t.Error("steps", n)
	}
}

// Examples: a count raised by two, by layer 16; what Alloc took and nothing holds.
func TestLeaksOfRefs(t *testing.T) {
	for order := 2; order < 7; order++ {
		s := full(t, 9, order).laid()
		r, no := refs.Open(s, name)
		want(t, no, api.OK)
		for range 2 {
			want(t, r.Add(1, 40), api.OK)
		}
		if f, no := mended(t, s); f != (api.Fixed{Leaks: 1}) || no != api.OK {
			t.Error(f, no)
		}
		place, no := r.Alloc(5)
		want(t, no, api.OK)
		if f, no := mended(t, s); f != (api.Fixed{Leaks: 5}) || no != api.OK {
			t.Error(f, no)
		}
		want(t, r.Add(-1, 0, 1, 2), api.OK)
		if f, no := mended(t, s); f != (api.Fixed{Low: 3}) || no != api.OK {
			t.Error(f, no)
		}
		if again, no := r.Alloc(5); again != place || no != api.OK {
			t.Error("not free again", again, place, no)
		}
	}
}

// P18.1: a counts' table of several clusters: blocks that its last ones lead to, with counts that are too low, and too high.
func TestLongTable(t *testing.T) {
	p := drawn(t, 9, 6, 0) // each cluster of the table has 64 blocks of 64 counts
	p.h.Counts, p.h.CountsLen = p.take(3*512), 3
	for _, i := range []int64{0, 64, 127, 128, 191} {
		p.word(p.h.Counts+8*i, uint64(p.take(512)))
	}
	p.row(4096*512, 2)
	p.row((2*4096+3)*512, 1)
	p.lists()
	p.grown(2*4096 + 64)
	p.sealed()
	tells(t, p, api.Fixed{})
	s := tells(t, p.bent(4097, 0, 4098, 1, 2*4096+3, 0, 3*4096-1, 9, 5, 0), api.Fixed{Low: 3, Leaks: 2})
	sameBytes(t, whole(t, s), p.b)
	p.word(p.h.Counts+64*8, 0)
	broken(t, p, api.ErrBroken, api.FindLow)
}

package refs

import (
	"math"
	"math/rand"
	"slices"
	"testing"

	"palimpsest/api"
	"palimpsest/store"
)

// adds holds an Add against the plain way: its answer, all bytes of the file, and that what was handed in stays.
func adds(t testing.TB, s *store.Store, p *picture, r *Refs, by int64, clusters ...int64) api.Errno {
	t.Helper()
	before := reckon(p.h, whole(t, s))
	after, should := before.added(by, clusters...)
	room := append(slices.Clone(clusters), 11, -12, 13)
	was := slices.Clone(room)
	call := func() {
		if no := r.Add(by, room[:len(clusters)]...); no != should {
			t.Fatalf("Add(%d, %v): %v, want %v", by, clusters, no, should)
		}
	}
	if should == api.OK {
		call()
	} else {
		unchanged(t, s, call)
		after = before
	}
	if !slices.Equal(room, was) {
		t.Fatal("what was handed in has changed", room, was)
	}
	sameBytes(t, s, after.b, "Add", by, clusters)
	return should
}

// P16.2: by what, and of no clusters.
func TestAddByWhat(t *testing.T) {
	s, r := right(t, 9, 4, 1).opened(t)
	unchanged(t, s, func() {
		for _, by := range []int64{0, 2, -2, 3, math.MaxInt64, math.MinInt64} {
			want(t, r.Add(by), api.ErrArg)
			want(t, r.Add(by, 1), api.ErrArg)
			want(t, r.Add(by, -1, r.Room()), api.ErrArg)
		}
		want(t, r.Add(1), api.OK)
		want(t, r.Add(-1), api.OK)
		want(t, r.Add(1, []int64{}...), api.OK)
	})
	want(t, r.Add(1, 1), api.OK)
	counted(t, r, 1, 2)
	want(t, r.Add(-1, 1), api.OK)
	counted(t, r, 1, 1)
	want(t, r.Add(-1, 1), api.OK)
	counted(t, r, 1, 0)
	want(t, r.Add(-1, 1), api.ErrBroken)
	counted(t, r, 1, 0)
}

// P16.2: of one, of one named several times, of clusters of several blocks, in any order, of each width.
func TestAddOfSeveral(t *testing.T) {
	for bits := 9; bits <= 12; bits++ {
		for order := range 7 {
			p := right(t, bits, order, 1).grown(6)
			per := p.c * 8 >> order
			p.block(1, 4)
			p.block(5, 5)
			p.count(4, 1)
			p.count(5, 1)
			s, r := p.opened(t)
			last := 6*per - 1
			for _, list := range [][]int64{
				{6}, {7, 8}, {per - 1}, {per}, {2*per - 1, 9}, {last, per + 1, 10},
				{11, 11}, {last - 1, 12, last - 1, 12, last - 1}, {5*per + 3, 13, per + 7, 14, 5 * per, 15, per + 6, 5*per + 4},
				{20, 19, 18, 17, 16, 21}, {4, 5, 4}, {0},
			} {
				for _, by := range []int64{1, -1, -1, 1, 1, 1, -1} {
					adds(t, s, p, r, by, list...)
				}
				slices.Reverse(list)
				adds(t, s, p, r, 1, list...)
			}
			if order >= 4 {
				counted(t, r, 12, 6)
				counted(t, r, last-1, 9)
			}
		}
	}
}

// P16.2: a count that would be too great, or below 0: wherever its cluster is named, nothing is changed.
func TestAddTooFar(t *testing.T) {
	for order := range 7 {
		p := right(t, 9, order, 1)
		p.grown(5)
		p.block(1, 4)
		per := int64(4096 >> order)
		most := ^uint64(0) >> (64 - 1<<order)
		p.count(4, 1)
		p.count(10, most)
		p.count(11, most-1)
		p.count(per+10, most)
		s, r := p.opened(t)
		for _, full := range []int64{10, per + 10} {
			for _, list := range [][]int64{{full}, {full, 20}, {20, full}, {20, full, 21}, {per + 20, 20, full}, {full, full}, {3 * per, full}, {full, 3*per + 1}} {
				want(t, adds(t, s, p, r, 1, list...), api.ErrFull)
			}
		}
		want(t, adds(t, s, p, r, 1, 11, 20, 11), api.ErrFull)
		want(t, adds(t, s, p, r, 1, 11, 3*per, 11), api.ErrFull)
		for _, list := range [][]int64{{30}, {10, 30}, {30, 10}, {10, 30, 4}, {10, per + 30}, {3 * per}, {10, 3*per + 1}, {3*per + 1, 10}, {0, 1, 0}, {10, 1, 10, 1}} {
			want(t, adds(t, s, p, r, -1, list...), api.ErrBroken)
		}
		// As often as it goes, and once more.
		if order > 3 {
			continue
		}
		named := slices.Repeat([]int64{40}, int(most))
		want(t, adds(t, s, p, r, 1, append(named, 40)...), api.ErrFull)
		want(t, adds(t, s, p, r, 1, named...), api.OK)
		counted(t, r, 40, most)
		want(t, adds(t, s, p, r, 1, 40), api.ErrFull)
		want(t, adds(t, s, p, r, -1, append(named, 40)...), api.ErrBroken)
		want(t, adds(t, s, p, r, -1, named...), api.OK)
		counted(t, r, 40, 0)
	}
}

// Errors: of several the first one by the chapter's order is told, wherever it stands.
func TestAddErrorsInOrder(t *testing.T) {
	p := right(t, 9, 6, 1).grown(5)
	p.block(0, 2)
	p.lead(2, 99*512)
	p.count(9, math.MaxUint64)
	s, r := p.opened(t)
	far, broken, full, low := r.Room(), int64(2*64+1), int64(9), int64(30)
	unchanged(t, s, func() {
		for _, c := range []struct {
			by   int64
			list []int64
			no   api.Errno
		}{
			{2, []int64{far, broken, full}, api.ErrArg},
			{1, []int64{full, broken, far}, api.ErrRange}, {1, []int64{full, broken, -1}, api.ErrRange}, {1, []int64{far, full}, api.ErrRange},
			{1, []int64{full, broken}, api.ErrBroken}, {1, []int64{broken, full}, api.ErrBroken}, {1, []int64{full, full, 5, broken}, api.ErrBroken},
			{1, []int64{full}, api.ErrFull},
			{-1, []int64{low, far}, api.ErrRange}, {-1, []int64{math.MinInt64, low}, api.ErrRange}, {-1, []int64{low, broken}, api.ErrBroken},
			{1, []int64{5, 6, 7, math.MaxInt64}, api.ErrRange},
		} {
			want(t, r.Add(c.by, c.list...), c.no)
		}
	})
}

// P16.2: what is added is not flushed; a crash leaves it or not, a flush lets it last.
func TestAddIsNotFlushed(t *testing.T) {
	for _, by := range []int64{1, -1} {
		p := right(t, 9, 4, 1)
		p.count(9, 5)
		s, r := p.opened(t)
		want(t, r.Add(by, 9), api.OK)
		if s.Pending() == 0 {
			t.Fatal("it was flushed")
		}
		counted(t, open(t, lasting(t, s)), 9, 5)
		all, no := s.Crash(slices.Repeat([]int{1}, s.Pending())...)
		want(t, no, api.OK)
		counted(t, open(t, all), 9, uint64(5+by))
		want(t, s.Flush(file), api.OK)
		counted(t, open(t, lasting(t, s)), 9, uint64(5+by))
	}
}

// P16.2: missing blocks are made ahead, and last; the counts that are added in them do not last as yet.
func TestAddMakesBlocks(t *testing.T) {
	for _, c := range []struct {
		list   []int64
		blocks []int64
	}{
		{[]int64{700}, []int64{2}}, {[]int64{513}, []int64{2}}, {[]int64{767}, []int64{2}},
		{[]int64{701, 700, 702, 700}, []int64{2}},
		{[]int64{700, 5, 300, 701, 2000, 301}, []int64{1, 2, 7}},
		{[]int64{512}, []int64{2}}, {[]int64{512, 512, 700}, []int64{2}},
		{[]int64{64*256 - 1}, []int64{63}},
	} {
		p := right(t, 9, 4, 1)
		s, r := p.opened(t)
		want(t, adds(t, s, p, r, 1, c.list...), api.OK)
		leaky(t, s)
		left := lasting(t, s)
		leaky(t, left)
		l := open(t, left)
		// What lasts: the blocks, each of which holds its own cluster; no count of those that were named.
		made := reckon(p.h, slices.Clone(p.b))
		for _, i := range c.blocks {
			made.make(i * 256)
			made.lead(i * 256)
			counted(t, l, i*256, 1)
		}
		sameBytes(t, left, made.b, "lasting", c.list)
		times := map[int64]uint64{}
		for _, k := range c.list {
			times[k]++
		}
		for k, x := range times {
			own := uint64(0)
			if slices.Contains(c.blocks, k/256) && k%256 == 0 {
				own = 1
			}
			counted(t, l, k, own)
			counted(t, r, k, own+x)
		}
		want(t, s.Flush(file), api.OK)
		sameBytes(t, lasting(t, s), whole(t, s))
	}
}

// P16.2: a missing block's cluster is noughts but for its own count, whatever stood there, and it is in the file.
func TestAddMakesBlocksOfNoughts(t *testing.T) {
	t.Parallel()
	for _, bits := range []int{9, 10, 13} {
		for order := range 7 {
			p := right(t, bits, order, 1)
			per := p.c * 8 >> order
			home := per * p.c
			if home > 1<<22 {
				continue
			}
			for _, size := range []int64{3 * p.c, 3*p.c + 1, home - 1, home, home + 1, home + p.c - 1, home + p.c, home + 2*p.c + 7} {
				q := &picture{p.h, p.c, slices.Clone(p.b)}
				for int64(len(q.b)) < size {
					q.b = append(q.b, 0xee)
				}
				s, r := q.opened(t)
				want(t, adds(t, s, q, r, 1, per+per/2), api.OK)
				counted(t, r, per, 1)
				counted(t, r, per+per/2, 1)
				counted(t, r, 2*per-1, 0)
				if n, _ := s.Size(file); n != max(size, home+p.c) {
					t.Fatal(n, size, home)
				}
				leaky(t, s)
				leaky(t, lasting(t, s))
			}
		}
	}
}

// P16.2: the cluster that is kept for a missing block has one more than the block itself; of counts of one bit that is too great.
func TestAddOfTheKept(t *testing.T) {
	for order := range 7 {
		p := right(t, 9, order, 1)
		per := int64(4096 >> order)
		s, r := p.opened(t)
		counted(t, r, 2*per, 0)
		want(t, adds(t, s, p, r, -1, 2*per), api.ErrBroken)
		if order == 0 {
			want(t, adds(t, s, p, r, 1, 2*per), api.ErrFull)
			want(t, adds(t, s, p, r, 1, 2*per+1, 2*per), api.ErrFull)
			counted(t, r, 2*per, 0)
			continue
		}
		want(t, adds(t, s, p, r, 1, 2*per), api.OK)
		counted(t, r, 2*per, 2)
		leaky(t, s)
		leaky(t, lasting(t, s))
		want(t, adds(t, s, p, r, -1, 2*per), api.OK)
		counted(t, r, 2*per, 1)
	}
}

// Errors: a missing block that a file has no room for is told ahead of all that is written, too.
func TestAddBeyondFiles(t *testing.T) {
	p := right(t, 9, 0, 4)
	s, r := p.opened(t)
	per := int64(4096)
	most := int64(api.MaxFile / 512) // clusters of the greatest file
	if r.Room() != 256*per || most != 128*per {
		t.Fatal(r.Room())
	}
	for _, list := range [][]int64{{most}, {most + 1}, {r.Room() - 1}, {9, most}, {most, 9}, {5*per + 1, most + 7}, {most + 7, 5*per + 1}} {
		want(t, adds(t, s, p, r, 1, list...), api.ErrFull)
		want(t, adds(t, s, p, r, -1, list...), api.ErrBroken)
		counted(t, r, list[0], 0)
	}
	want(t, r.Add(1, most-1), api.OK)
	counted(t, r, most-1, 1)
	counted(t, r, most-per, 1)
	if n, _ := s.Size(file); n != (most-per+1)*512 {
		t.Error(n)
	}
}

// Errors: a missing block is not made over the head, over the counts' table, or over another block.
func TestAddMakesNoBlockOverAnother(t *testing.T) {
	none := drawn(t, 9, 6, 1, 1, 3) // the first block is missing: it would be made over the head
	s, r := none.opened(t)
	counted(t, r, 0, 0)
	for _, k := range []int64{0, 1, 63} {
		want(t, adds(t, s, none, r, 1, k), api.ErrBroken)
		want(t, adds(t, s, none, r, 1, 70, k), api.ErrBroken)
	}
	unchanged(t, s, func() { untaken(t, r, 1, api.ErrBroken) })
	want(t, adds(t, s, none, r, 1, 70), api.OK)

	for table := int64(63); table <= 66; table++ { // the counts' table has clusters 64 to 66, or some of them
		p := drawn(t, 9, 6, table, 3, 70)
		p.block(0, 2)
		for k := range int64(64) {
			p.count(k, 1)
		}
		s, r := p.opened(t)
		should := map[bool]api.Errno{true: api.ErrBroken, false: api.OK}[table <= 64]
		want(t, adds(t, s, p, r, 1, 65), should)
		if should != api.OK {
			unchanged(t, s, func() { untaken(t, r, 1, should) })
		}
	}

	p := right(t, 9, 6, 1).grown(66) // the third block lies where the second one would be made
	p.block(2, 64)
	p.count(150, 7)
	s, r = p.opened(t)
	want(t, adds(t, s, p, r, 1, 65), api.ErrBroken)
	want(t, adds(t, s, p, r, 1, 200), api.OK)
	want(t, adds(t, s, p, r, 1, 150), api.OK)
	counted(t, r, 150, 8)
}

// Words: sectors of blocks that nothing is added in are not written to.
func TestAddWritesWhatIsAdded(t *testing.T) {
	p := right(t, 16, 4, 1)
	s, r := p.opened(t)
	want(t, r.Add(1, 5, 300, 6, 32767), api.OK)
	var places []int64
	for piece := range s.Pieces(file) {
		places = append(places, piece.At/512*512-2*p.c)
	}
	if slices.Sort(places); !slices.Equal(places, []int64{0, 512, 127 * 512}) {
		t.Error(places)
	}
}

// P16.2: many lists over images of all widths, against the plain way.
func TestAddAgainstThePlainWay(t *testing.T) {
	t.Parallel()
	rnd := rand.New(rand.NewSource(162))
	told := map[api.Errno]int{}
	for i := range 600 {
		p := someImage(t, rnd, 9+i%3)
		s, r := p.opened(t)
		w := reckon(p.h, p.b)
		for range 8 {
			by := []int64{1, 1, -1}[rnd.Intn(3)]
			told[adds(t, s, p, r, by, someClusters(rnd, w, 1+rnd.Intn(6))...)]++
		}
	}
	if told[api.OK] < 500 || told[api.ErrRange] < 30 || told[api.ErrBroken] < 500 || told[api.ErrFull] < 100 {
		t.Error(told)
	}
}
